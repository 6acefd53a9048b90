/- The specification's maker of machines: make, at a variable and at an end. -/
import Derived.Test.YthaomohoiginnaaQMachineOf33
namespace Go.Proofs.Ythaomohoiginnaa
open Go.RowKit
attribute [local go_sem ↓] Go.wp_at_zero Go.wp_at_succ

/-- blocks below base are as they were, but for xb -/
structure Mkept (w w' : World) (base xb : Nat) : Prop where
  os : w'.os = w.os
  tape : w'.tape = w.tape
  output : w'.output = w.output
  size : w.heap.size ≤ w'.heap.size
  block : ∀ b, b < base → b ≠ xb → w'.heap[b]? = w.heap[b]?
theorem Mkept.refl (w : World) (base xb : Nat) : Mkept w w base xb := ⟨rfl, rfl, rfl, Nat.le_refl _, fun _ _ _ => rfl⟩
theorem Mkept.trans {a b c : World} {base xb : Nat} (h : Mkept a b base xb) (h' : Mkept b c base xb) : Mkept a c base xb :=
  ⟨h'.os.trans h.os, h'.tape.trans h.tape, h'.output.trans h.output, Nat.le_trans h.size h'.size, fun k hk hn => (h'.block k hk hn).trans (h.block k hk hn)⟩
theorem Apart.mkept {w w' : World} {l : List Nat} {base xb : Nat} (h : Apart w w' l) (hb : base ≤ w.heap.size) (hl : ∀ b ∈ l, b = xb ∨ base ≤ b) : Mkept w w' base xb :=
  ⟨h.os, h.tape, h.output, h.size, fun b hlt hn => h.block b (Nat.lt_of_lt_of_le hlt hb) (fun hm => by rcases hl b hm with q | q; exact hn q; omega)⟩
theorem Mkept.sl {w w' : World} {base xb B : Nat} {v : Value} {ns : List Nd} (h : Mkept w w' base xb) (hB : B ≤ xb) (hx : xb < base) (hs : SlAt w B v ns) : SlAt w' B v ns :=
  hs.carry ⟨h.os, h.tape, h.output, h.size, fun k hk => h.block k (by omega) (by omega)⟩
theorem dis_on {v v' u : Value} {p p' : Option Addr} {n n' c c' sz : Nat} (ev : v = .slice p n c) (ev' : v' = .slice p' n' c') (h : ∀ b ∈ vblocks v, b ∉ vblocks u) (hat : v'.ownBlock = v.ownBlock ∨ v'.ownBlock = some sz) (hu : ∀ b ∈ vblocks u, b < sz) : ∀ b ∈ vblocks v', b ∉ vblocks u := by
  intro b hb hm
  have hb' := (own_blocks ev').2 hb
  rcases hat with e | e
  · rw [e] at hb'
    exact h b ((own_blocks ev).1 hb') hm
  · rw [e] at hb'
    have := hu b hm
    simp at hb'
    omega
theorem mk_push1 {w3 w4 : World} {xb B base : Nat} {v sv ev v4 : Value} {z : Int} {nv fv : Value} {all : List Nd} {sts : List RState} {eds : List REdge} {ns : List ByteArray} {fis : List Int} (h : MkAt w3 xb B base v sv ev z nv fv all sts eds ns fis) (x : RState) (o : Obj)
    (hown : w4.ownsRow base 98 2 v4 (sts.length + 1) (sts.flatMap RState.cells ++ x.cells)) (hg : (w3.alloc o).grownBy w4 sv.ownBlock) (hat : v4.ownBlock = sv.ownBlock ∨ v4.ownBlock = some (w3.alloc o).heap.size) :
    MkAt (w4.setCell ⟨xb, 1, none⟩ v4) xb B base v v4 ev z nv fv all (sts ++ [x]) eds ns fis ∧ Mkept w3 (w4.setCell ⟨xb, 1, none⟩ v4) base xb := by
  obtain ⟨p, cp, rfl⟩ := owns_shape h.st
  obtain ⟨p4, c4, rfl⟩ := owns_shape hown
  have hA : Apart w3 w4 (vblocks (.slice p sts.length cp)) := by
    have := (below_apart (malloc1 w3 o)).trans (grownBy_apart hg)
    rwa [List.nil_append] at this
  have lo := h.st.fresh.lo
  have lo4 := (owns_fresh hown).lo
  have hl := h.low
  have hS := setCell_apart w4 xb 1 (.slice p4 (sts.length + 1) c4)
  have hA2 := hA.trans hS
  have hin : ∀ b, (b ∈ vblocks (.slice p sts.length cp) ++ [xb]) → b = xb ∨ base ≤ b := fun b hb => by
    rw [List.mem_append] at hb
    rcases hb with hb | hb
    · exact .inr (lo b hb)
    · simp at hb; exact .inl hb
  have hK := hA2.mkept h.sz hin
  have off : ∀ {u : Value}, (∀ b ∈ vblocks u, base ≤ b) → (∀ b ∈ vblocks (.slice p sts.length cp), b ∉ vblocks u) → ∀ b ∈ vblocks u, b ∉ vblocks (.slice p sts.length cp) ++ [xb] := fun hu hd b hb hm => by
    rw [List.mem_append] at hm
    rcases hm with hm | hm
    · exact hd b hm hb
    · have := hu b hb; simp at hm; omega
  have up : ∀ {u : Value}, (∀ b ∈ vblocks u, b < w3.heap.size) → ∀ b ∈ vblocks u, b < (w3.alloc o).heap.size := fun hu b hb => by have := hu b hb; simp; omega
  refine ⟨⟨?_, hK.sl hl.1 hl.2 h.sl, ?_, ?_, ?_, ?_, ?_, hl, ?_⟩, hK⟩
  · exact (h.box.keep hA (fun hb => by have := lo _ hb; omega)).set 1 (by simp) _
  · exact RStateOwn.snoc (owns_keep hown hS (fun b hb hm => by have := lo4 b hb; simp at hm; omega))
  · exact h.ed.keep hA2 (off h.ed.fresh.lo h.four.se)
  · exact owns_keep h.nm hA2 (off (owns_fresh h.nm).lo h.four.sn)
  · exact owns_keep h.fi hA2 (off (owns_fresh h.fi).lo h.four.sf)
  · exact ⟨dis_on rfl rfl h.four.se hat (up h.ed.fresh.hi), dis_on rfl rfl h.four.sn hat (up (owns_fresh h.nm).hi), dis_on rfl rfl h.four.sf hat (up (owns_fresh h.fi).hi), h.four.en, h.four.ef, h.four.nf⟩
  · exact Nat.le_trans h.sz hA2.size
/-- but for xb and these rows all is as it was; the new rows are these, or new -/
structure Mk4 (w w' : World) (xb : Nat) (R R' : List Nat) : Prop where
  size : w.heap.size ≤ w'.heap.size
  block : ∀ b, b < w.heap.size → b ≠ xb → b ∉ R → w'.heap[b]? = w.heap[b]?
  rows : ∀ b ∈ R', b ∈ R ∨ w.heap.size ≤ b
def rows4 (sv ev nv fv : Value) : List Nat := vblocks sv ++ (vblocks ev ++ (vblocks nv ++ vblocks fv))
theorem mem4 {sv ev nv fv : Value} {b : Nat} : b ∈ rows4 sv ev nv fv ↔ b ∈ vblocks sv ∨ b ∈ vblocks ev ∨ b ∈ vblocks nv ∨ b ∈ vblocks fv := by simp [rows4]
theorem Mk4.trans {a b c : World} {xb : Nat} {R R' R'' : List Nat} (h : Mk4 a b xb R R') (h' : Mk4 b c xb R' R'') : Mk4 a c xb R R'' :=
  ⟨Nat.le_trans h.size h'.size, fun k hk hx hR => (h'.block k (Nat.lt_of_lt_of_le hk h.size) hx (fun hm => by rcases h.rows k hm with q | q; exact hR q; omega)).trans (h.block k hk hx hR), fun k hk => by
    rcases h'.rows k hk with q | q
    · exact h.rows k q
    · have := h.size; exact .inr (by omega)⟩
theorem Mk4.far {w w' : World} {xb : Nat} {R : List Nat} (h : Far w w') : Mk4 w w' xb R R := ⟨h.ap.size, fun b hb _ _ => h.ap.block b hb (by simp), fun _ hb => .inl hb⟩
theorem Mk4.apart {w w' : World} {xb : Nat} {R R' L : List Nat} (h : Apart w w' L) (hL : ∀ b ∈ L, b = xb ∨ b ∈ R) (hR : ∀ b ∈ R', b ∈ R ∨ w.heap.size ≤ b) : Mk4 w w' xb R R' :=
  ⟨h.size, fun b hb hx hn => h.block b hb (fun hm => by rcases hL b hm with q | q; exact hx q; exact hn q), hR⟩
theorem Mk4.push {w3 w4 : World} {xb k : Nat} {v v4 : Value} {p p4 : Option Addr} {n n4 c c4 : Nat} (hv : v = .slice p n c) (hv4 : v4 = .slice p4 n4 c4) (o : Obj) (hg : (w3.alloc o).grownBy w4 v.ownBlock) (hat : v4.ownBlock = v.ownBlock ∨ v4.ownBlock = some (w3.alloc o).heap.size) {R R' : List Nat} (hR : ∀ b ∈ vblocks v, b ∈ R) (hR' : ∀ b ∈ R', b ∈ R ∨ b ∈ vblocks v4) : Mk4 w3 (w4.setCell ⟨xb, k, none⟩ v4) xb R R' := by
  have hA : Apart w3 w4 (vblocks v) := by
    rw [hv] at hg
    have := (below_apart (malloc1 w3 o)).trans (grownBy_apart hg)
    rw [List.nil_append] at this
    rw [hv]
    exact this
  refine Mk4.apart (hA.trans (setCell_apart w4 xb k v4)) (fun b hb => ?_) (fun b hb => ?_)
  · rw [List.mem_append] at hb
    rcases hb with hb | hb
    · exact .inr (hR b hb)
    · simp at hb; exact .inl hb
  · rcases hR' b hb with q | q
    · exact .inl q
    · have q' := (own_blocks hv4).2 q
      rcases hat with e | e
      · rw [e] at q'
        exact .inl (hR b ((own_blocks hv).1 q'))
      · rw [e] at q'
        simp at q'
        exact .inr (by omega)
/-- what make answers -/
def Made (w w' : World) (xb B base : Nat) (v : Value) (z : Int) (R : List Nat) (all : List Nd) (ns : List ByteArray) (fis : List Int) (e : Ending) (o : List Nd × List RState × List REdge) : Prop :=
  ∃ sv' ev' nv' fv', e = .returned (.int .i64 ((all.length - o.1.length : Nat) : Int)) ∧ MkAt w' xb B base v sv' ev' z nv' fv' all o.2.1 o.2.2 ns fis ∧ Mkept w w' base xb ∧ Mk4 w w' xb R (rows4 sv' ev' nv' fv')
def MakeCalls (f : Nat) : Prop := ∀ (st all r : List Nd) (pos : Nat) (w : World) (xb B base : Nat) (v sv ev : Value) (z : Int) (nv fv : Value) (sts : List RState) (eds : List REdge) (ns : List ByteArray) (fis : List Int), ahead (talkS true) f st (all.drop pos) = some r → all.length ≤ 40 → pos < all.length → fis.length = ns.length → ns.length + f ≤ 100 → cntS all pos = sts.length → eds.length + (all.length - pos) ≤ 900 → MkAt w xb B base v sv ev z nv fv all sts eds ns fis →
  Calls Try.prog 128 #[.pointer (some ⟨xb, 0, none⟩), .int .i64 (pos : Int)] w fun e w' => Made w w' xb B base v z (rows4 sv ev nv fv) all ns fis e (Go.Proofs.Ythaomohoiginnaa.sv f ns fis (all.drop pos) (sts, eds))
set_option maxRecDepth 100000 in
set_option maxHeartbeats 1000000 in
theorem make_var (all : List Nd) (pos : Nat) (w : World) (xb B base : Nat) (v sv ev : Value) (z : Int) (nv fv : Value) (sts : List RState) (eds : List REdge) (ns : List ByteArray) (fis : List Int) (hall : all.length ≤ 40) (hpos : pos < all.length) (hop : all[pos].op = 1) (h : MkAt w xb B base v sv ev z nv fv all sts eds ns fis) :
    Calls Try.prog 128 #[.pointer (some ⟨xb, 0, none⟩), .int .i64 (pos : Int)] w fun e w' => Made w w' xb B base v z (rows4 sv ev nv fv) all ns fis e (all.drop (pos + 1), sts, eds) := by
  have H := hide h
  have c0 := h.box.cell 0 _ rfl
  have hxw := h.box.lt
  obtain ⟨ao, cap, rfl, hc1, hc2, hr⟩ := h.sl
  obtain ⟨b, o, rfl, hb, hrow⟩ := hr (by rintro rfl; simp at hpos)
  have hnode := hrow.get pos hpos
  obtain ⟨x1, hx1⟩ : ∃ x, x = all[pos] := ⟨_, rfl⟩
  rw [← hx1] at hnode hop
  obtain ⟨op, name, peer, many, sort⟩ := x1
  dsimp only at hop
  subst hop
  obtain ⟨d0, d1, d2, d3, d4⟩ := hnode
  dsimp only at d0 d1 d2 d3 d4
  have HL : Hid (((all.length - (all.drop (pos + 1)).length : Nat) : Int) = (pos : Int) + 1) := hide (by rw [List.length_drop]; omega)
  clear h hx1 hrow hr
  go_enter Try.func128, Try.ntmps128
  go_wp2_with fail
  go_ret
  exact ⟨sv, ev, nv, fv, ret_int HL.out, H.out.far ((Far.ofBelow (Below.refl _ _)).alloc _), (Far.ofBelow (malloc1 w _)).ap.mkept H.out.sz (by simp), Mk4.far (Far.ofBelow (malloc1 w _))⟩
set_option maxRecDepth 100000 in
set_option maxHeartbeats 1000000 in
theorem make_end (all : List Nd) (pos : Nat) (w : World) (xb B base : Nat) (v sv ev : Value) (z : Int) (nv fv : Value) (sts : List RState) (eds : List REdge) (ns : List ByteArray) (fis : List Int) (hall : all.length ≤ 40) (hpos : pos < all.length) (hop : all[pos].op = 0) (hsl : sts.length ≤ 1000) (h : MkAt w xb B base v sv ev z nv fv all sts eds ns fis) :
    Calls Try.prog 128 #[.pointer (some ⟨xb, 0, none⟩), .int .i64 (pos : Int)] w fun e w' => Made w w' xb B base v z (rows4 sv ev nv fv) all ns fis e (all.drop (pos + 1), sts ++ [⟨0, ByteArray.empty⟩], eds) := by
  have H := hide h
  have c0 := h.box.cell 0 _ rfl
  have c1 := h.box.cell 1 _ rfl
  have cz := h.box.fz
  have hxw := h.box.lt
  obtain ⟨i0, hi, hz0, hz1, hz2⟩ := info_parts Try.infoRState
  have HI := hide (And.intro hi (And.intro hz0 (And.intro hz1 hz2)))
  obtain ⟨ps, cs, rfl⟩ := owns_shape h.st
  obtain ⟨ao, cap, rfl, hc1, hc2, hr⟩ := h.sl
  obtain ⟨b, o, rfl, hb, hrow⟩ := hr (by rintro rfl; simp at hpos)
  have hnode := hrow.get pos hpos
  obtain ⟨x1, hx1⟩ : ∃ x, x = all[pos] := ⟨_, rfl⟩
  rw [← hx1] at hnode hop
  obtain ⟨op, name, peer, many, sort⟩ := x1
  dsimp only at hop
  subst hop
  obtain ⟨d0, d1, d2, d3, d4⟩ := hnode
  dsimp only at d0 d1 d2 d3 d4
  have HL : Hid (((all.length - (all.drop (pos + 1)).length : Nat) : Int) = (pos : Int) + 1) := hide (by rw [List.length_drop]; omega)
  have HW1 : Hid (∀ ob : Obj, MkAt (w.alloc ob) xb B base (.slice (some ⟨b, o, none⟩) all.length cap) (.slice ps sts.length cs) ev z nv fv all sts eds ns fis) := hide (fun ob => H.out.far ((Far.ofBelow (Below.refl _ _)).alloc ob))
  clear h hx1 hrow hr hi hz0 hz1 hz2
  go_enter Try.func128, Try.ntmps128
  go_wp2_with (at_builtin; refine wpList_append_own_at _ rfl (.tmp 28) (.tmp 30) 42 rfl base 98 i0 (.agg #[.int .i64 0, .string ByteArray.empty]) 2 24 Try.underlying42 HI.out.1 HI.out.2.1 HI.out.2.2.1 HI.out.2.2.2 rfl (by decide) (.slice ps sts.length cs) sts.length (sts.flatMap RState.cells) rfl ((HW1.out _).st.below (malloc1 _ _)) ⟨w.heap.size + 1, 0, none⟩ 1 1 (RState.cells ⟨0, ByteArray.empty⟩) rfl rfl (fun j u hj => new_row1q (w.alloc (.cells #[.int .i64 0, .string name, .string peer, .int .i64 many, .int .i64 sort] 79)) _ _ (w.heap.size + 1) (by simp) j u hj) (RState.cells_one _) (by unfold maxLen; omega) (by omega) (by have := H.out.sz; simp; omega) ?_; intro v4 w4 hown4 hgr4 _ hat4; have HM4 := hide (mk_push1 (HW1.out _) ⟨0, ByteArray.empty⟩ _ hown4 hgr4 hat4); obtain ⟨p4, c4, hv4⟩ := owns_shape hown4; have HX4 := hide (Mk4.push (xb := xb) (k := 1) rfl hv4 _ hgr4 hat4 (R := rows4 (.slice ps sts.length cs) ev nv fv) (R' := rows4 v4 ev nv fv) (fun b hb => mem4.2 (.inl hb)) (fun b hb => (mem4.1 hb).elim .inr (fun q => .inl (mem4.2 (.inr q))))); have HB4 := hide ((HW1.out (.cells #[.int .i64 0, .string name, .string peer, .int .i64 many, .int .i64 sort] 79)).box.keep ((below_apart (malloc1 _ _)).trans (grownBy_apart hgr4)) (fun hm => by rw [List.nil_append] at hm; have := H.out.st.fresh.lo _ hm; have := H.out.low; omega)); have l1 := HB4.out.cell 1 _ rfl; have lz := HB4.out.fz; subst hv4; clear hown4 hgr4 hat4)
  go_ret
  exact ⟨_, ev, nv, fv, ret_int HL.out, HM4.out.1, ((Far.ofBelow (malloc1 w _)).ap.mkept H.out.sz (by simp)).trans HM4.out.2, (Mk4.far (Far.ofBelow (malloc1 w _))).trans HX4.out⟩
end Go.Proofs.Ythaomohoiginnaa
/- The specification's maker of machines: names and first states, pushed. -/
namespace Go.Proofs.Ythaomohoiginnaa
open Go.RowKit

theorem mk_pushN {w3 w4 : World} {xb B base : Nat} {v sv ev v4 : Value} {z : Int} {nv fv : Value} {all : List Nd} {sts : List RState} {eds : List REdge} {ns : List ByteArray} {fis : List Int} (h : MkAt w3 xb B base v sv ev z nv fv all sts eds ns fis) (x : ByteArray) (o : Obj)
    (hown : w4.ownsRow base 9 1 v4 (ns.length + 1) (strsV ns ++ [.string x])) (hg : (w3.alloc o).grownBy w4 nv.ownBlock) (hat : v4.ownBlock = nv.ownBlock ∨ v4.ownBlock = some (w3.alloc o).heap.size) :
    MkAt (w4.setCell ⟨xb, 4, none⟩ v4) xb B base v sv ev z v4 fv all sts eds (ns ++ [x]) fis ∧ Mkept w3 (w4.setCell ⟨xb, 4, none⟩ v4) base xb := by
  obtain ⟨p, cp, hp⟩ := owns_shape h.nm
  obtain ⟨p4, c4, rfl⟩ := owns_shape hown
  subst hp
  have hA : Apart w3 w4 (vblocks (.slice p ns.length cp)) := by
    have := (below_apart (malloc1 w3 o)).trans (grownBy_apart hg)
    rwa [List.nil_append] at this
  have lo := (owns_fresh h.nm).lo
  have lo4 := (owns_fresh hown).lo
  have hl := h.low
  have hS := setCell_apart w4 xb 4 (.slice p4 (ns.length + 1) c4)
  have hA2 := hA.trans hS
  have hin : ∀ b, (b ∈ vblocks (.slice p ns.length cp) ++ [xb]) → b = xb ∨ base ≤ b := fun b hb => by
    rw [List.mem_append] at hb
    rcases hb with hb | hb
    · exact .inr (lo b hb)
    · simp at hb; exact .inl hb
  have hK := hA2.mkept h.sz hin
  have off : ∀ {u : Value}, (∀ b ∈ vblocks u, base ≤ b) → (∀ b ∈ vblocks u, b ∉ vblocks (.slice p ns.length cp)) → ∀ b ∈ vblocks u, b ∉ vblocks (.slice p ns.length cp) ++ [xb] := fun hu hd b hb hm => by
    rw [List.mem_append] at hm
    rcases hm with hm | hm
    · exact hd b hb hm
    · have := hu b hb; simp at hm; omega
  have up : ∀ {u : Value}, (∀ b ∈ vblocks u, b < w3.heap.size) → ∀ b ∈ vblocks u, b < (w3.alloc o).heap.size := fun hu b hb => by have := hu b hb; simp; omega
  have flip : ∀ {a u : Value}, (∀ b ∈ vblocks a, b ∉ vblocks u) → ∀ b ∈ vblocks u, b ∉ vblocks a := fun hh b hb hm => hh b hm hb
  have hnew : (w4.setCell ⟨xb, 4, none⟩ (.slice p4 (ns.length + 1) c4)).ownsRow base 9 1 (.slice p4 (ns.length + 1) c4) (ns ++ [x]).length (strsV (ns ++ [x])) := by
    rw [List.length_append, List.length_singleton]
    have e : strsV (ns ++ [x]) = strsV ns ++ [.string x] := by simp [strsV]
    rw [e]
    exact owns_keep hown hS (fun b hb hm => by have := lo4 b hb; simp at hm; omega)
  refine ⟨⟨(h.box.keep hA (fun hb => by have := lo _ hb; omega)).set 4 (by simp) _, hK.sl hl.1 hl.2 h.sl, h.st.keep hA2 (off h.st.fresh.lo h.four.sn), h.ed.keep hA2 (off h.ed.fresh.lo h.four.en), hnew, owns_keep h.fi hA2 (off (owns_fresh h.fi).lo (flip h.four.nf)), ⟨h.four.se, flip (dis_on rfl rfl (flip h.four.sn) hat (up h.st.fresh.hi)), h.four.sf, flip (dis_on rfl rfl (flip h.four.en) hat (up h.ed.fresh.hi)), h.four.ef, dis_on rfl rfl h.four.nf hat (up (owns_fresh h.fi).hi)⟩, hl, Nat.le_trans h.sz hA2.size⟩, hK⟩
theorem mk_pushF {w3 w4 : World} {xb B base : Nat} {v sv ev v4 : Value} {z : Int} {nv fv : Value} {all : List Nd} {sts : List RState} {eds : List REdge} {ns : List ByteArray} {fis : List Int} (h : MkAt w3 xb B base v sv ev z nv fv all sts eds ns fis) (x : Int) (o : Obj)
    (hown : w4.ownsRow base 2 1 v4 (fis.length + 1) (numsV fis ++ [.int .i64 x])) (hg : (w3.alloc o).grownBy w4 fv.ownBlock) (hat : v4.ownBlock = fv.ownBlock ∨ v4.ownBlock = some (w3.alloc o).heap.size) :
    MkAt (w4.setCell ⟨xb, 5, none⟩ v4) xb B base v sv ev z nv v4 all sts eds ns (fis ++ [x]) ∧ Mkept w3 (w4.setCell ⟨xb, 5, none⟩ v4) base xb := by
  obtain ⟨p, cp, hp⟩ := owns_shape h.fi
  obtain ⟨p4, c4, rfl⟩ := owns_shape hown
  subst hp
  have hA : Apart w3 w4 (vblocks (.slice p fis.length cp)) := by
    have := (below_apart (malloc1 w3 o)).trans (grownBy_apart hg)
    rwa [List.nil_append] at this
  have lo := (owns_fresh h.fi).lo
  have lo4 := (owns_fresh hown).lo
  have hl := h.low
  have hS := setCell_apart w4 xb 5 (.slice p4 (fis.length + 1) c4)
  have hA2 := hA.trans hS
  have hin : ∀ b, (b ∈ vblocks (.slice p fis.length cp) ++ [xb]) → b = xb ∨ base ≤ b := fun b hb => by
    rw [List.mem_append] at hb
    rcases hb with hb | hb
    · exact .inr (lo b hb)
    · simp at hb; exact .inl hb
  have hK := hA2.mkept h.sz hin
  have off : ∀ {u : Value}, (∀ b ∈ vblocks u, base ≤ b) → (∀ b ∈ vblocks u, b ∉ vblocks (.slice p fis.length cp)) → ∀ b ∈ vblocks u, b ∉ vblocks (.slice p fis.length cp) ++ [xb] := fun hu hd b hb hm => by
    rw [List.mem_append] at hm
    rcases hm with hm | hm
    · exact hd b hb hm
    · have := hu b hb; simp at hm; omega
  have up : ∀ {u : Value}, (∀ b ∈ vblocks u, b < w3.heap.size) → ∀ b ∈ vblocks u, b < (w3.alloc o).heap.size := fun hu b hb => by have := hu b hb; simp; omega
  have flip : ∀ {a u : Value}, (∀ b ∈ vblocks a, b ∉ vblocks u) → ∀ b ∈ vblocks u, b ∉ vblocks a := fun hh b hb hm => hh b hm hb
  have hnew : (w4.setCell ⟨xb, 5, none⟩ (.slice p4 (fis.length + 1) c4)).ownsRow base 2 1 (.slice p4 (fis.length + 1) c4) (fis ++ [x]).length (numsV (fis ++ [x])) := by
    rw [List.length_append, List.length_singleton]
    have e : numsV (fis ++ [x]) = numsV fis ++ [.int .i64 x] := by simp [numsV]
    rw [e]
    exact owns_keep hown hS (fun b hb hm => by have := lo4 b hb; simp at hm; omega)
  refine ⟨⟨(h.box.keep hA (fun hb => by have := lo _ hb; omega)).set 5 (by simp) _, hK.sl hl.1 hl.2 h.sl, h.st.keep hA2 (off h.st.fresh.lo h.four.sf), h.ed.keep hA2 (off h.ed.fresh.lo h.four.ef), owns_keep h.nm hA2 (off (owns_fresh h.nm).lo h.four.nf), hnew, ⟨h.four.se, h.four.sn, flip (dis_on rfl rfl (flip h.four.sf) hat (up h.st.fresh.hi)), h.four.en, flip (dis_on rfl rfl (flip h.four.ef) hat (up h.ed.fresh.hi)), flip (dis_on rfl rfl (flip h.four.nf) hat (up (owns_fresh h.nm).hi))⟩, hl, Nat.le_trans h.sz hA2.size⟩, hK⟩
end Go.Proofs.Ythaomohoiginnaa
