import Derived.Test.YtaaeledleldllaaGreatQB49
import Derived.Test.YtaaeledleldllaaGreatQB47
import Derived.Maps.AppendAt
import Derived.Test.YtaaeledleldllaaGreatQB34
import Derived.Test.YtaaeledleldllaaGreatQB40
import Derived.Test.YtaaeledleldllaaGreatQB42
import Derived.Deep.RegionHeld3
import Derived.Test.YtaaeledleldllaaGreatQB18
import Derived.Test.YtaaeledleldllaaGreatQB08
import Derived.Test.YtaaeledleldllaaGreatQB38
import Derived.Deep.DrawnRows
import Derived.Test.YtaaeledleldllaaGreatQB33
import Derived.Test.YtaaeledleldllaaGreatQB39
import Derived.OwnWalkIn
import Derived.TacticsInMore
import Derived.LoopIn
import Derived.WalkKit
namespace Go.Proofs.YtaaeledleldllaaGreat
open Go.RowKit
attribute [local go_sem ↓] Go.wp_at_zero Go.wp_at_succ

theorem rd_slat {w : World} {S : Nat → Prop} {v : Value} {l : List Nd} (h : RdS w S v l) (hS : ∀ g, S g → g < w.heap.size) : SlAt w w.heap.size v l := by
  obtain ⟨ao, cap, e, h1, h2, h3, h4⟩ := h
  unfold maxLen at h2
  refine ⟨ao, cap, e, h1, ⟨h2, by omega⟩, fun hne => ?_⟩
  obtain ⟨g, o, e1, e2, e3⟩ := h4 hne
  exact ⟨g, o, e1, hS g e2, e3⟩
structure MU where
  sv : Value
  ev : Value
  m : Mach
def MU.val (u : MU) : Value := .agg #[u.sv, u.ev, .int .i64 u.m.start]
def MU.cells (u : MU) : List Value := [u.sv, u.ev, .int .i64 u.m.start]
structure MUOk (w : World) (u : MU) : Prop where
  at_ : MachAt w u.val u.m
  shape : (∃ ps cs, u.sv = .slice ps u.m.states.length cs) ∧ ∃ pe ce, u.ev = .slice pe u.m.edges.length ce
theorem lo_mu {w w' : World} {e : Ending} {m : Mach} (h : LoAns w w' e m) (hs : m.states.length ≤ 40) (he : m.edges.length ≤ 80) : ∃ u : MU, e = .returned u.val ∧ u.m = m ∧ MUOk w' u ∧ (∀ b ∈ vblocks u.val, w.heap.size ≤ b ∧ b < w'.heap.size) ∧ Below w.heap.size w w' := by
  obtain ⟨sv, ev, rfl, h1, h2, h3⟩ := h.ans
  obtain ⟨ps, cs, rfl⟩ := owns_shape h1
  obtain ⟨pe, ce, rfl⟩ := owns_shape h2
  refine ⟨⟨_, _, m⟩, rfl, rfl, ⟨⟨_, _, rfl, h1.sl (by omega), h2.sl (by omega)⟩, ⟨_, _, rfl⟩, ⟨_, _, rfl⟩⟩, fun b hb => ?_, h.bel⟩
  rw [MU.val, two_blocks, List.mem_append] at hb
  rcases hb with hb | hb
  · exact ⟨h1.fresh.lo b hb, h1.fresh.hi b hb⟩
  · exact ⟨h2.fresh.lo b hb, h2.fresh.hi b hb⟩
set_option maxRecDepth 100000 in
set_option maxHeartbeats 1000000 in
theorem s_l06Machine {ns : List Nd} {p : Pn 10} (hs : SPlan ns p) {role : ByteArray} (hr : role ∈ rolesS ns) (v : Value) (w : World) (hv : SlAt w w.heap.size v ns) :
    Calls Tryz.prog 83 #[v, .string role] w fun e w' => ∃ u : MU, e = .returned u.val ∧ u.m = machOf p role ∧ MUOk w' u ∧ (∀ b ∈ vblocks u.val, w.heap.size ≤ b ∧ b < w'.heap.size) ∧ Below w.heap.size w w' := by
  obtain ⟨z, hz⟩ := role_mach hs hr
  have HZ := hide hz
  have HV := hide hv
  have HOF : Hid (∀ W, Below w.heap.size w W → Calls Tryz.prog 70 #[v, .int .i64 0, .string role] W fun e w' => ∃ q, e = .returned (.tuple #[q, .bool true]) ∧ SlAt w' w'.heap.size q (rowN 10 z) ∧ Below W.heap.size W w') := hide (fun W hb => by
    have hvW := (hv.carry hb).up hb.size
    obtain ⟨ao, cap, rfl, hc, hm, hrw⟩ := hvW
    have h40 := hs.len
    have hS : RdS W (fun g => g < W.heap.size) (.slice ao ns.length cap) ns := ⟨ao, cap, rfl, hc, by unfold maxLen; omega, by omega, hrw⟩
    refine (of_calls role 10 p ns [] 0 (.slice ao ns.length cap) W (fun g => g < W.heap.size) (fun g hg => hg) hs.pl h40 (by rw [List.drop_zero, List.append_nil]; exact hs.row) hS).mono ?_
    rintro e w' ⟨q, r, rfl, h1, h2, -, -, h5⟩
    rw [hz.part] at h2 ⊢
    rw [h2 z rfl] at h1
    exact ⟨q, rfl, rd_slat h1 (fun g hg => hg.2), h5⟩)
  obtain ⟨ao, cap, rfl, -⟩ := hv
  clear hz
  go_enter Tryz.func83, Tryz.ntmps83
  go_wp2_with (first
    | (go_at_call 133; refine (s_l04Of (rowN 10 z) _ _ (part_ahead HZ.out.right).1 HZ.out.len HS1.out).mono ?_; rintro e w2 hlo; obtain ⟨u2, rfl, hum, huo, hub, hb2⟩ := lo_mu hlo (by rw [← HZ.out.mach]; exact HZ.out.sts) (by rw [← HZ.out.mach]; exact HZ.out.eds); have HU := hide (And.intro hum (And.intro huo hub)); have HB2 := hide hb2; have hsh := huo.shape; have Y := HX1.out.keep (below_apart hb2) (by simp); have y0 := Y.cell 0 _ rfl; have y1 := Y.cell 1 _ rfl; have y2 := Y.cell 2 _ rfl; have fy := Y.fz; have HY := hide Y; obtain ⟨sv, ev, m⟩ := u2; dsimp only at hsh; obtain ⟨⟨ps, cs, rfl⟩, ⟨pe, ce, rfl⟩⟩ := hsh; unfold MU.val at *; clear hlo hum huo hub hb2 Y)
    | (go_at_call 70; refine (HOF.out _ (malloc1 _ _)).mono ?_; rintro e w1 ⟨q, rfl, hs1, hb1⟩; have HS1 := hide hs1; obtain ⟨qa, qc, rfl, -⟩ := hs1; have HB1 := hide hb1; have HX1 := hide ((BoxL.new w [.slice none 0 0, .slice none 0 0, .int .i64 0] 59).keep (below_apart hb1) (by simp)); clear hb1))
  have hA : Apart w2 (((w2.setCell ⟨w.heap.size, 0, none⟩ (.slice ps m.states.length cs)).setCell ⟨w.heap.size, 1, none⟩ (.slice pe m.edges.length ce)).setCell ⟨w.heap.size, 2, none⟩ (.int .i64 m.start)) [w.heap.size] := Apart.setCell (Apart.setCell (setCell_apart _ _ _ _) 1 _) 2 _
  have hX := ((HY.out.set 0 (by simp) (.slice ps m.states.length cs)).set 1 (by simp) (.slice pe m.edges.length ce)).set 2 (by simp) (.int .i64 m.start)
  obtain ⟨W, hW⟩ : ∃ W, W = (((w2.setCell ⟨w.heap.size, 0, none⟩ (.slice ps m.states.length cs)).setCell ⟨w.heap.size, 1, none⟩ (.slice pe m.edges.length ce)).setCell ⟨w.heap.size, 2, none⟩ (.int .i64 m.start)) := ⟨_, rfl⟩
  rw [← hW] at hA hX ⊢
  have k0 := hX.cell 0 _ rfl
  have k1 := hX.cell 1 _ rfl
  have k2 := hX.cell 2 _ rfl
  obtain ⟨hum, huo, hub⟩ := HU.out
  have hz1 : w.heap.size < w1.heap.size := by have := HB1.out.size; simp at this; omega
  have hb : Below w.heap.size w W := ((malloc1 w _).trans ((HB1.out.trans (HB2.out.mono HB1.out.size)).mono (by simp))).trans (hA.below (by have := HB2.out.size; omega) (fun b hb => by simp at hb; omega))
  have hoff : ∀ b ∈ vblocks (.agg #[.slice ps m.states.length cs, .slice pe m.edges.length ce, .int .i64 m.start]), b ∉ [w.heap.size] := fun b hb hm => by
    have := (hub b hb).1
    simp at hm
    omega
  refine bodyPost_ret_by (v := .agg #[.slice ps m.states.length cs, .slice pe m.edges.length ce, .int .i64 m.start]) ?_ rfl ⟨⟨.slice ps m.states.length cs, .slice pe m.edges.length ce, m⟩, rfl, ?_, ⟨mach_sep huo.at_ hA hoff, ⟨_, _, rfl⟩, ⟨_, _, rfl⟩⟩, fun b hb => ?_, hb⟩
  · unfold results
    go_simp
  · rw [HZ.out.mach]; exact hum
  · exact ⟨by have := (hub b hb).1; omega, Nat.lt_of_lt_of_le (hub b hb).2 hA.size⟩
end Go.Proofs.YtaaeledleldllaaGreat
namespace Go.Proofs.YtaaeledleldllaaGreat
open Go.RowKit
attribute [local go_sem ↓] Go.wp_at_zero Go.wp_at_succ

theorem MUOk.keep {w w' : World} {u : MU} {l : List Nat} (h : MUOk w u) (ha : Apart w w' l) (hd : ∀ b ∈ vblocks u.val, b ∉ l) : MUOk w' u := ⟨mach_sep h.at_ ha hd, h.shape⟩
structure MRowO {α : Type} (mu : α → MU) (cells : α → List Value) (e : TypeId) (size : Nat) (w : World) (base : Nat) (mv : Value) (us : List α) : Prop where
  own : w.ownsRow base e size mv us.length (us.flatMap cells)
  ok : ∀ u ∈ us, MUOk w (mu u)
  off : ∀ u ∈ us, ∀ b ∈ vblocks (mu u).val, b ∉ vblocks mv ∧ b < w.heap.size
section
variable {α : Type} {mu : α → MU} {cells : α → List Value} {e : TypeId} {size : Nat}
theorem MRowO.keep {w w' : World} {base : Nat} {mv : Value} {us : List α} {l : List Nat} (h : MRowO mu cells e size w base mv us) (ha : Apart w w' l) (hv : ∀ b ∈ vblocks mv, b ∉ l) (hu : ∀ u ∈ us, ∀ b ∈ vblocks (mu u).val, b ∉ l) : MRowO mu cells e size w' base mv us :=
  ⟨owns_keep h.own ha hv, fun u hm => (h.ok u hm).keep ha (hu u hm), fun u hm b hb => ⟨(h.off u hm b hb).1, Nat.lt_of_lt_of_le (h.off u hm b hb).2 ha.size⟩⟩
theorem MRowO.below {w w' : World} {base : Nat} {mv : Value} {us : List α} (h : MRowO mu cells e size w base mv us) (hb : Below w.heap.size w w') : MRowO mu cells e size w' base mv us := h.keep (below_apart hb) (by simp) (by simp)
theorem mrow_push {w w1 w2 : World} {base : Nat} {mv v' : Value} {us : List α} (h : MRowO mu cells e size w base mv us) (hb : Below w.heap.size w w1) {u : α} (hu : MUOk w1 (mu u)) (hn : ∀ b ∈ vblocks (mu u).val, w.heap.size ≤ b ∧ b < w1.heap.size) (o : Obj)
    (hown : w2.ownsRow base e size v' (us.length + 1) (us.flatMap cells ++ cells u)) (hg : (w1.alloc o).grownBy w2 mv.ownBlock) (hat : v'.ownBlock = mv.ownBlock ∨ v'.ownBlock = some (w1.alloc o).heap.size) :
    MRowO mu cells e size w2 base v' (us ++ [u]) ∧ Apart w w2 (vblocks mv) ∧ ∀ b ∈ vblocks v', b ∈ vblocks mv ∨ w1.heap.size ≤ b := by
  obtain ⟨p, c, hv⟩ := owns_shape h.own
  obtain ⟨p', c', hv'⟩ := owns_shape hown
  have hhi := (owns_fresh h.own).hi
  have hA1 : Apart w1 w2 (vblocks mv) := by
    rw [hv] at hg ⊢
    have := (below_apart (malloc1 w1 o)).trans (grownBy_apart hg)
    rwa [List.nil_append] at this
  have hA : Apart w w2 (vblocks mv) := by
    have := (below_apart hb).trans hA1
    rwa [List.nil_append] at this
  have sub : ∀ b ∈ vblocks v', b ∈ vblocks mv ∨ w1.heap.size ≤ b := fun b hm => by
    have hm' := (own_blocks hv').2 hm
    rcases hat with e | e
    · rw [e] at hm'
      exact .inl ((own_blocks hv).1 hm')
    · rw [e] at hm'
      simp at hm'
      exact .inr (by omega)
  refine ⟨⟨?_, fun x hx => ?_, fun x hx b hbx => ?_⟩, hA, sub⟩
  · rw [List.length_append, List.flatMap_append]
    simpa using hown
  · rcases List.mem_append.1 hx with hx | hx
    · exact (h.ok x hx).keep hA (fun b hb' => (h.off x hx b hb').1)
    · simp at hx
      subst hx
      exact hu.keep hA1 (fun b hb' hm => by have := hhi b hm; have := (hn b hb').1; omega)
  · rcases List.mem_append.1 hx with hx | hx
    · refine ⟨fun hm => ?_, Nat.lt_of_lt_of_le (h.off x hx b hbx).2 hA.size⟩
      rcases sub b hm with hm | hm
      · exact (h.off x hx b hbx).1 hm
      · have := (h.off x hx b hbx).2; have := hb.size; omega
    · simp at hx
      subst hx
      refine ⟨fun hm => ?_, Nat.lt_of_lt_of_le (hn b hbx).2 hA1.size⟩
      rcases sub b hm with hm | hm
      · have := hhi b hm; have := (hn b hbx).1; omega
      · have := (hn b hbx).2; omega
end
theorem MU.cells_one {w : World} {u : MU} (h : MUOk w u) : ∀ x ∈ u.cells, x.oneCell' = true := by
  obtain ⟨⟨ps, cs, e1⟩, ⟨pe, ce, e2⟩⟩ := h.shape
  intro x hx
  simp only [MU.cells, List.mem_cons, List.not_mem_nil, or_false] at hx
  rcases hx with rfl | rfl | rfl
  · rw [e1]; rfl
  · rw [e2]; rfl
  · rfl
theorem Tryz.infoMach : (Tryz.prog.info? 59).map (fun i => (i.zero, i.size, i.bytes)) = some (some (.agg #[.slice none 0 0, .slice none 0 0, .int .i64 0]), 3, 56) := by kernel_rfl
theorem new_row1m (w : World) (cs : List Value) (T : TypeId) : ∀ j u, cs[j]? = some u → (w.alloc (.cells cs.toArray T)).cell? ((⟨w.heap.size, 0, none⟩ : Addr).add j) = some u := fun j u hj => by
  have h := (BoxL.new w cs T).cell j u hj
  have e : (⟨w.heap.size, 0, none⟩ : Addr).add j = ⟨w.heap.size, j, none⟩ := by unfold Addr.add; simp; omega
  rw [e]
  exact h
abbrev MSRow := @MRowO MU id MU.cells 59 3
set_option maxRecDepth 100000 in
set_option maxHeartbeats 2000000 in
theorem s_l06All {ns : List Nd} {p : Pn 10} (hs : SPlan ns p) (v : Value) (w : World) (hv : SlAt w w.heap.size v ns) :
    Calls Tryz.prog 43 #[v] w fun e w' => ∃ rv mv us, e = .returned (.tuple #[rv, mv]) ∧ STexts w' rv (rolesS ns) ∧ MSRow w' w.heap.size mv us ∧ us.map MU.m = (rolesS ns).map (machOf p) ∧ Below w.heap.size w w' := by
  have HV := hide hv
  have HS := hide hs
  have HMA : Hid (∀ (role : ByteArray), role ∈ rolesS ns → ∀ W, Below w.heap.size w W → Calls Tryz.prog 83 #[v, .string role] W fun e w' => ∃ u : MU, e = .returned u.val ∧ u.m = machOf p role ∧ MUOk w' u ∧ (∀ b ∈ vblocks u.val, W.heap.size ≤ b ∧ b < w'.heap.size) ∧ Below W.heap.size W w') := hide (fun role hr W hb => s_l06Machine hs hr v W ((hv.carry hb).up hb.size))
  have HSR := hide (s_roles ns v w hv hs.len)
  have HL4 := hide (right_roles hs.right)
  obtain ⟨i0, hi, hz0, hz1, hz2⟩ := info_parts Tryz.infoMach
  have HI := hide (And.intro hi (And.intro hz0 (And.intro hz1 hz2)))
  obtain ⟨rs, hrs⟩ : ∃ rs, rolesS ns = rs := ⟨_, rfl⟩
  rw [hrs] at HMA HSR HL4 ⊢
  obtain ⟨ao, cap, rfl, -⟩ := hv
  clear hrs hi hz0 hz1 hz2
  go_enter Tryz.func43, Tryz.ntmps43
  go_wp2_with (go_at_call 63; refine HSR.out.mono ?_; rintro e w1 ⟨v1, rfl, hs1, hb1⟩; have HT1 := hide hs1; obtain ⟨b1, o1, c1, rfl, hc1, hm1, hr1⟩ := hs1; have HR1 := hide hr1; have HB1 := hide hb1; clear hb1 hr1)
  have hl4 : rs.length ≤ 4 := HL4.out
  go_loopw [5, 6] (fun mv i wr => ∃ (k : Nat) (us : List MU), k ≤ rs.length ∧ i = .int .i64 k ∧ us.length = k ∧ us.map MU.m = (rs.take k).map (machOf p) ∧ MSRow wr w1.heap.size mv us ∧ Below w1.heap.size w1 wr) (fun _ i _ => rs.length - (intOf i).toNat)
  case atStart =>
    refine ⟨0, [], Nat.zero_le _, rfl, rfl, rfl, ⟨owns_empty _ _ _ _ w1.heap.size (Nat.le_refl _) (mheap_new _ _ _ rfl), fun u hu => (by cases hu), fun u hu => (by cases hu)⟩, malloc1 _ _⟩
  case round =>
    obtain ⟨k, us, hk, rfl, hul, hum, hrow, hbel⟩ := hrel
    obtain ⟨pm, cm, hpm⟩ := owns_shape hrow.own
    rw [hul] at hpm
    subst hpm
    have HROW := hide hrow
    have HUM := hide hum
    have HUL := hide hul
    have HBEL := hide hbel
    clear hrow hum hbel hul
    by_cases hlt : k < rs.length
    · have c0 := (HBEL.out.cell (p := ⟨b1, _, none⟩) (World.block_lt_of_cell? w1 _ (HR1.out k hlt))).trans (HR1.out k hlt)
      have HC := hide (HMA.out rs[k] (List.getElem_mem hlt) wr (HB1.out.trans (HBEL.out.mono HB1.out.size)))
      have HTK : Hid ((rs.take (k + 1)).map (machOf p) = (rs.take k).map (machOf p) ++ [machOf p rs[k]]) := hide (by rw [List.take_succ_eq_append_getElem hlt, List.map_append]; rfl)
      obtain ⟨x1, hx1⟩ : ∃ x1, x1 = rs[k] := ⟨_, rfl⟩
      rw [← hx1] at c0 HC HTK
      clear hx1
      go_wp2_with (first
        | (at_builtin; refine wpList_append_own_at _ rfl (.tmp 16) (.tmp 23) 80 rfl w1.heap.size 59 i0 (.agg #[.slice none 0 0, .slice none 0 0, .int .i64 0]) 3 56 Tryz.underlying80 HI.out.1 HI.out.2.1 HI.out.2.2.1 HI.out.2.2.2 rfl (by decide) (.slice pm k cm) us.length (us.flatMap MU.cells) rfl ((HROW.out.below HB2.out).below (malloc1 _ _)).own ⟨w2.heap.size, 0, none⟩ 1 1 (MU.cells ⟨.slice ps m.states.length cs, .slice pe m.edges.length ce, m⟩) rfl rfl (new_row1m _ _ _) (MU.cells_one HU.out.2.1) (by have := HUL.out; unfold maxLen; omega) (by have := HUL.out; omega) (by have := HBEL.out.size; have := HB2.out.size; simp; omega) ?_; intro v3 w3 hown3 hgr3 _ hat3; have HP := hide (mrow_push HROW.out HB2.out HU.out.2.1 HU.out.2.2 _ hown3 hgr3 hat3); obtain ⟨p3, c3, hv3⟩ := owns_shape hown3; rw [HUL.out] at hv3; subst hv3; clear hown3 hgr3 hat3)
        | (go_at_call 83; refine HC.out.mono ?_; rintro e w2 ⟨u2, rfl, hum2, huo2, hub2, hb2⟩; have hsh := huo2.shape; have HU := hide (And.intro hum2 (And.intro huo2 hub2)); have HB2 := hide hb2; obtain ⟨sv, ev, m⟩ := u2; dsimp only at hsh; obtain ⟨⟨ps, cs, rfl⟩, ⟨pe, ce, rfl⟩⟩ := hsh; unfold MU.val at *; clear hum2 huo2 hub2 hb2))
      go_roundw
      case rel =>
        refine ⟨k + 1, us ++ [⟨.slice ps m.states.length cs, .slice pe m.edges.length ce, m⟩], hlt, by go_num, by rw [List.length_append, HUL.out]; rfl, ?_, HP.out.1, HBEL.out.trans (HP.out.2.1.below HBEL.out.size (fun b hb => (owns_fresh HROW.out.own).lo b hb))⟩
        rw [HTK.out, List.map_append, HUM.out]
        congr 1
        exact congrArg (fun x => [x]) HU.out.1
      case measure => simp [intOf]; omega
    · go_wp2_with fail
      go_ret2
      refine ⟨_, _, us, rfl, HT1.out.carry HBEL.out, ⟨owns_down HROW.out.own HB1.out.size, HROW.out.ok, HROW.out.off⟩, ?_, HB1.out.trans (HBEL.out.mono HB1.out.size)⟩
      rw [HUM.out, List.take_of_length_le (by omega)]
end Go.Proofs.YtaaeledleldllaaGreat
namespace Go.Proofs.YtaaeledleldllaaGreat
open Go.RowKit

set_option maxRecDepth 100000 in
set_option maxHeartbeats 1000000 in
theorem s_l06Net {q : Bool} {rs : List ByteArray} {l : List RMsg} (hq : amongB rs l = q) (nv rv : Value) (w : World) (hr : rs.length ≤ 4) (hl : l.length ≤ 36) (hn : RMsgSl w w.heap.size nv l) (ht : STexts w rv rs) :
    Calls Tryz.prog 44 #[nv, rv] w fun e w' => e = .returned (.bool q) ∧ w' = w := by
  have HQ := hide hq
  have HT := hide (ht.texts (by omega))
  obtain ⟨b1, o1, c1, rfl, -⟩ := ht
  obtain ⟨ao, cap, rfl, hc, hm, hrow⟩ := hn
  have HR := hide hrow
  clear hq hrow
  go_enter Tryz.func44, Tryz.ntmps44
  go_wp2_with fail
  go_loopw [5] (fun i wr => ∃ k : Nat, k ≤ l.length ∧ i = .int .i64 k ∧ (∀ j (h : j < l.length), j < k → (hasB rs l[j].frm && hasB rs l[j].to) = true) ∧ wr = w) (fun i _ => l.length - (intOf i).toNat)
  case atStart => exact ⟨0, Nat.zero_le _, rfl, fun j _ h => absurd h (by omega), rfl⟩
  case round =>
    obtain ⟨k, hk, rfl, hall, rfl⟩ := hrel
    have HA := hide hall
    clear hall
    by_cases hlt : k < l.length
    · obtain ⟨b, o, rfl, hbB, hrow⟩ := HR.out (by intro h; simp [h] at hlt)
      have hnode := hrow.get k hlt
      have HNO := hide (among_no (rs := rs) hlt)
      obtain ⟨x1, hx1⟩ : ∃ x1, x1 = l[k] := ⟨_, rfl⟩
      rw [← hx1] at hnode HNO
      have HX := hide hx1
      obtain ⟨d0, d1, d2, d3⟩ := hnode
      obtain ⟨q1, hq1⟩ : ∃ q1, hasB rs x1.frm = q1 := ⟨_, rfl⟩
      obtain ⟨q2, hq2⟩ : ∃ q2, hasB rs x1.to = q2 := ⟨_, rfl⟩
      have HQ1 := hide hq1
      have HQ2 := hide hq2
      have HA1 := hide ((s_among rs x1.frm _ wr HT.out).mono (R' := fun e w' => e = .returned (.bool q1) ∧ w' = wr) (fun e w' h => by rw [hq1] at h; exact h))
      have HA2 := hide ((s_among rs x1.to _ wr HT.out).mono (R' := fun e w' => e = .returned (.bool q2) ∧ w' = wr) (fun e w' h => by rw [hq2] at h; exact h))
      clear hx1 hrow hq1 hq2
      cases q1
      · go_wp2_with (go_at_call 62; refine HA1.out.mono ?_; rintro e w1 ⟨rfl, rfl⟩)
        go_ret
        exact ⟨ret_bool (by rw [← HQ.out]; exact HNO.out (by rw [HQ1.out]; rfl)), rfl⟩
      · cases q2
        · go_wp2_with (first
            | (go_at_call 62; (fail_if_success (have := HM)); refine HA1.out.mono ?_; rintro e w1 ⟨rfl, rfl⟩; have HM : Hid True := hide trivial)
            | (go_at_call 62; refine HA2.out.mono ?_; rintro e w1 ⟨rfl, rfl⟩))
          go_ret
          exact ⟨ret_bool (by rw [← HQ.out]; exact HNO.out (by rw [HQ1.out, HQ2.out]; rfl)), rfl⟩
        · go_wp2_with (first
            | (go_at_call 62; (fail_if_success (have := HM)); refine HA1.out.mono ?_; rintro e w1 ⟨rfl, rfl⟩; have HM : Hid True := hide trivial)
            | (go_at_call 62; refine HA2.out.mono ?_; rintro e w1 ⟨rfl, rfl⟩))
          go_roundw
          case rel =>
            refine ⟨k + 1, hlt, by go_num, fun j hj hjk => ?_, by first | rfl | trivial⟩
            by_cases e : j = k
            · subst e; rw [← HX.out, HQ1.out, HQ2.out]; rfl
            · exact HA.out j hj (by omega)
          case measure => simp [intOf]; omega
    · go_wp2_with fail
      go_ret
      exact ⟨ret_bool (by rw [← HQ.out]; exact (among_all (fun j hj => HA.out j hj (by omega)))), rfl⟩

theorem mrow_get {α : Type} {mu : α → MU} {cells : α → List Value} {e : TypeId} {size : Nat} {w : World} {base : Nat} {mv : Value} {us : List α} (h : MRowO mu cells e size w base mv us) (hz : ∀ u, (cells u).length = size) {k : Nat} (hk : k < us.length) : ∃ g c, mv = .slice (some ⟨g, 0, none⟩) us.length c ∧ us.length ≤ c ∧ (∀ j x, (cells us[k])[j]? = some x → w.cell? ⟨g, k * size + j, none⟩ = some x) := by
  obtain ⟨hl, hh⟩ := h.own
  rcases hh with ⟨-, h0⟩ | ⟨g, cap, cur, hv, hg, hblk, hc, hm, hcs, htk⟩
  · omega
  · refine ⟨g, cap, hv, hc, fun j x hx => ?_⟩
    have hj : j < size := by have := (List.getElem?_eq_some_iff.1 hx).1; rw [hz] at this; exact this
    have e1 : (us.flatMap cells)[k * size + j]? = some x := by
      have key : ∀ (l : List α) (k : Nat) (hk : k < l.length), (l.flatMap cells)[k * size + j]? = (cells l[k])[j]? := by
        intro l
        induction l with
        | nil => intro k hk; simp at hk
        | cons a l ih =>
          intro k hk
          cases k with
          | zero =>
            rw [List.flatMap_cons, Nat.zero_mul, Nat.zero_add, List.getElem?_append_left (by rw [hz]; exact hj)]
            rfl
          | succ k =>
            rw [List.flatMap_cons, List.getElem?_append_right (by rw [hz, Nat.succ_mul]; omega)]
            have := ih k (by simpa using hk)
            rw [hz, show (k + 1) * size + j - size = k * size + j by rw [Nat.succ_mul]; omega]
            exact this
      rw [key us k hk]
      exact hx
    rw [← htk, List.getElem?_take] at e1
    split at e1
    · rw [World.cell?, hblk]
      simpa using e1
    · cases e1
set_option maxRecDepth 100000 in
set_option maxHeartbeats 2000000 in
theorem s_runRight (r : Rn) (b : Bool) (hb : RnIs r b) (v : Value) (w : World) (hf : r.fit) (hv : RnAt w v r) :
    Calls Tryz.prog 14 #[v] w fun e w' => e = .returned (.bool b) ∧ Below w.heap.size w w' := by
  obtain ⟨pa, pc, sa, sc, na, nc, rfl, h1, h2, h3⟩ := hv.at_
  obtain ⟨C, hC⟩ : ∃ C, C = rnC (.slice pa r.plan.length pc) (.slice sa r.states.length sc) (.slice na r.net.length nc) r.steps := ⟨_, rfl⟩
  have HS2 : Hid (∀ w1, Below (w.heap.size + 1) (w.alloc (.cells C.toArray 37)) w1 → SlAt w1 w1.heap.size (.slice pa r.plan.length pc) r.plan ∧ NumSl w1 w1.heap.size (.slice sa r.states.length sc) r.states ∧ RMsgSl w1 w1.heap.size (.slice na r.net.length nc) r.net ∧ BoxL w1 w.heap.size C ∧ Below w.heap.size w w1) := hide (fun w1 hb => by
    have hb' : Below (w.alloc (.cells C.toArray 37)).heap.size (w.alloc (.cells C.toArray 37)) w1 := by simpa using hb
    have hb2 : Below w.heap.size w w1 := (malloc1 _ _).trans (hb'.mono (by simp))
    exact ⟨(h1.carry hb2).up hb2.size, h2.on hb2, (h3.carry hb2).up hb2.size, (BoxL.new w C _).keep (below_apart hb') (by simp), hb2⟩)
  have HT : Hid (∀ (w1 w2 : World), Below (w.heap.size + 1) (w.alloc (.cells C.toArray 37)) w1 → Below w1.heap.size w1 w2 → Below (w.heap.size + 1) (w.alloc (.cells C.toArray 37)) w2) := hide (fun w1 w2 h1 h2 => h1.trans (h2.mono (by have := h1.size; simpa using this)))
  have HF := hide hf
  have HOK := hide (fun m (hm : m ∈ r.net) => show m.ok from ⟨Nat.le_trans (hf.2.2.2 m hm).1 (by unfold maxLen; omega), Nat.le_trans (hf.2.2.2 m hm).2.1 (by unfold maxLen; omega), Nat.le_trans (hf.2.2.2 m hm).2.2 (by unfold maxLen; omega)⟩)
  have hsl : r.states.length ≤ 1048576 := hf.2.1
  have X0 := (HS2.out _ (Below.refl _ _)).2.2.2.1
  have hC2 : rnV (.slice pa r.plan.length pc) (.slice sa r.states.length sc) (.slice na r.net.length nc) r.steps = .agg C.toArray := by rw [hC]; rfl
  rw [hC2]
  clear h1 h2 h3 hv hf hC2
  rw [hC] at *
  clear hC
  unfold rnC at *
  obtain ⟨q1, hq1⟩ : ∃ q, netB r.net = q := ⟨_, rfl⟩
  obtain ⟨q2, hq2⟩ : ∃ q, timeK r.steps = q := ⟨_, rfl⟩
  have HQ1 := hide hq1
  have HQ2 := hide hq2
  clear hq1 hq2 X0
  rcases hb with ⟨hsn, rfl⟩ | ⟨p, hsn, hsp, rfl⟩
  · have HSN := hide hsn
    clear hsn
    go_enter Tryz.func14, Tryz.ntmps14
    go_wp2_with (go_at_call 9; refine (s_sound r.plan _ HSN.out _ _ HF.out.1.2 (HS2.out _ (Below.refl _ _)).1).mono ?_; rintro e w1 ⟨rfl, hb1⟩; have HW1 := hide (HT.out _ _ (Below.refl _ _) hb1); clear hb1)
    go_ret
    exact ⟨rfl, (HS2.out _ HW1.out).2.2.2.2⟩
  · have HSN := hide hsn
    have HSP := hide hsp
    have HB : Hid (rnB r p = (q1 && q2 && stsB ((rolesS r.plan).map (machOf p)) r.states && amongB (rolesS r.plan) r.net)) := hide (by rw [← HQ1.out, ← HQ2.out]; rfl)
    have H36 : Hid (q1 = true → r.net.length ≤ 36) := hide (fun e => by
      have := HQ1.out.trans e
      unfold netB at this
      rw [Bool.and_eq_true, decide_eq_true_eq] at this
      exact this.1)
    have HL4 := hide (right_roles hsp.right)
    clear hsn hsp
    cases q1
    · go_enter Tryz.func14, Tryz.ntmps14
      go_wp2_with (first
        | (go_at_call 41; refine (s_net HQ1.out _ _ HOK.out (HS2.out _ HW1.out).2.2.1).mono ?_; rintro e w2 ⟨rfl, hb2⟩; have HW2 := hide (HT.out _ _ HW1.out hb2); clear hb2)
        | (go_at_call 9; refine (s_sound r.plan _ HSN.out _ _ HF.out.1.2 (HS2.out _ (Below.refl _ _)).1).mono ?_; rintro e w1 ⟨rfl, hb1⟩; have HW1 := hide (HT.out _ _ (Below.refl _ _) hb1); have X1 := (HS2.out _ HW1.out).2.2.2.1; have x2 := X1.cell 2 _ rfl; clear hb1 X1))
      go_ret
      exact ⟨ret_bool HB.out, (HS2.out _ HW2.out).2.2.2.2⟩
    · replace H36 := hide (H36.out rfl)
      cases q2
      · go_enter Tryz.func14, Tryz.ntmps14
        go_wp2_with (first
          | (go_at_call 42; refine (st_time HQ2.out _).mono ?_; rintro e w3 ⟨rfl, rfl⟩)
          | (go_at_call 41; refine (s_net HQ1.out _ _ HOK.out (HS2.out _ HW1.out).2.2.1).mono ?_; rintro e w2 ⟨rfl, hb2⟩; have HW2 := hide (HT.out _ _ HW1.out hb2); have X2 := (HS2.out _ HW2.out).2.2.2.1; have y3 := X2.cell 3 _ rfl; clear hb2 X2)
          | (go_at_call 9; refine (s_sound r.plan _ HSN.out _ _ HF.out.1.2 (HS2.out _ (Below.refl _ _)).1).mono ?_; rintro e w1 ⟨rfl, hb1⟩; have HW1 := hide (HT.out _ _ (Below.refl _ _) hb1); have X1 := (HS2.out _ HW1.out).2.2.2.1; have x2 := X1.cell 2 _ rfl; clear hb1 X1))
        go_ret
        exact ⟨ret_bool HB.out, (HS2.out _ HW2.out).2.2.2.2⟩
      · obtain ⟨rs, hrs⟩ : ∃ rs, rolesS r.plan = rs := ⟨_, rfl⟩
        have HALL : Hid (∀ W, Below (w.heap.size + 1) (w.alloc (.cells [.slice pa r.plan.length pc, .slice sa r.states.length sc, .slice na r.net.length nc, .int .i64 r.steps].toArray 37)) W → Calls Tryz.prog 43 #[.slice pa r.plan.length pc] W fun e w' => ∃ rv mv us, e = .returned (.tuple #[rv, mv]) ∧ STexts w' rv rs ∧ MSRow w' W.heap.size mv us ∧ us.map MU.m = rs.map (machOf p) ∧ Below W.heap.size W w') := hide (fun W hW => by rw [← hrs]; exact s_l06All HSP.out _ W (HS2.out W hW).1)
        rw [hrs] at HB HL4
        obtain ⟨q4, hq4⟩ : ∃ q, amongB rs r.net = q := ⟨_, rfl⟩
        have HQ4 := hide hq4
        rw [hq4] at HB
        have hl4 : rs.length ≤ 4 := HL4.out
        clear hrs hq4
        by_cases hlen : r.states.length = rs.length
        · have HLEN := hide hlen
          rw [hlen] at HS2 HT HALL ⊢
          clear hlen
          cases q4
          · go_enter Tryz.func14, Tryz.ntmps14
            go_wp2_with (first
              | (go_at_call 44; refine (s_l06Net HQ4.out _ _ _ hl4 H36.out (HS2.out _ HW4.out).2.2.1 HT4.out).mono ?_; rintro e w5 ⟨rfl, rfl⟩)
              | (go_at_call 43; refine (HALL.out _ HW2.out).mono ?_; rintro e w4 ⟨rv, mv, us, rfl, ht4, hrow4, hum4, hb4⟩; have HT4 := hide ht4; obtain ⟨tb, to, tc, rfl, -⟩ := ht4; have HROW := hide hrow4; have HUM := hide hum4; have HW4 := hide (HT.out _ _ HW2.out hb4); obtain ⟨pm, cm, hpm⟩ := owns_shape hrow4.own; subst hpm; have X4 := (HS2.out _ HW4.out).2.2.2.1; have v1 := X4.cell 1 _ rfl; have v2 := X4.cell 2 _ rfl; clear hrow4 hum4 hb4 X4)
              | (go_at_call 42; refine (st_time HQ2.out _).mono ?_; rintro e w3 ⟨rfl, rfl⟩)
              | (go_at_call 41; refine (s_net HQ1.out _ _ HOK.out (HS2.out _ HW1.out).2.2.1).mono ?_; rintro e w2 ⟨rfl, hb2⟩; have HW2 := hide (HT.out _ _ HW1.out hb2); have X2 := (HS2.out _ HW2.out).2.2.2.1; have y0 := X2.cell 0 _ rfl; have y3 := X2.cell 3 _ rfl; clear hb2 X2)
              | (go_at_call 9; refine (s_sound r.plan _ HSN.out _ _ HF.out.1.2 (HS2.out _ (Below.refl _ _)).1).mono ?_; rintro e w1 ⟨rfl, hb1⟩; have HW1 := hide (HT.out _ _ (Below.refl _ _) hb1); have X1 := (HS2.out _ HW1.out).2.2.2.1; have x2 := X1.cell 2 _ rfl; clear hb1 X1))
            go_ret
            exact ⟨ret_bool (HB.out.trans (by rw [Bool.and_false])), (HS2.out _ HW4.out).2.2.2.2⟩
          · go_enter Tryz.func14, Tryz.ntmps14
            go_wp2_with (first
              | (go_at_call 44; refine (s_l06Net HQ4.out _ _ _ hl4 H36.out (HS2.out _ HW4.out).2.2.1 HT4.out).mono ?_; rintro e w5 ⟨rfl, rfl⟩)
              | (go_at_call 43; refine (HALL.out _ HW2.out).mono ?_; rintro e w4 ⟨rv, mv, us, rfl, ht4, hrow4, hum4, hb4⟩; have HT4 := hide ht4; obtain ⟨tb, to, tc, rfl, -⟩ := ht4; have HROW := hide hrow4; have HUM := hide hum4; have HW4 := hide (HT.out _ _ HW2.out hb4); obtain ⟨pm, cm, hpm⟩ := owns_shape hrow4.own; subst hpm; have X4 := (HS2.out _ HW4.out).2.2.2.1; have v1 := X4.cell 1 _ rfl; have v2 := X4.cell 2 _ rfl; clear hrow4 hum4 hb4 X4)
              | (go_at_call 42; refine (st_time HQ2.out _).mono ?_; rintro e w3 ⟨rfl, rfl⟩)
              | (go_at_call 41; refine (s_net HQ1.out _ _ HOK.out (HS2.out _ HW1.out).2.2.1).mono ?_; rintro e w2 ⟨rfl, hb2⟩; have HW2 := hide (HT.out _ _ HW1.out hb2); have X2 := (HS2.out _ HW2.out).2.2.2.1; have y0 := X2.cell 0 _ rfl; have y3 := X2.cell 3 _ rfl; clear hb2 X2)
              | (go_at_call 9; refine (s_sound r.plan _ HSN.out _ _ HF.out.1.2 (HS2.out _ (Below.refl _ _)).1).mono ?_; rintro e w1 ⟨rfl, hb1⟩; have HW1 := hide (HT.out _ _ (Below.refl _ _) hb1); have X1 := (HS2.out _ HW1.out).2.2.2.1; have x2 := X1.cell 2 _ rfl; clear hb1 X1))
            have HUS : Hid (us.length = rs.length) := hide (by have := congrArg List.length HUM.out; simpa using this)
            have hul4 : us.length ≤ 4 := by have := HUS.out; omega
            go_loopw [5] (fun i wr => ∃ k : Nat, k ≤ us.length ∧ i = .int .i64 k ∧ (∀ j (h : j < us.length) (h2 : j < r.states.length), j < k → stOk us[j].m r.states[j] = true) ∧ Below w5.heap.size w5 wr) (fun i _ => us.length - (intOf i).toNat)
            case atStart => exact ⟨0, Nat.zero_le _, rfl, fun j _ _ h => absurd h (by omega), Below.refl _ _⟩
            case round =>
              obtain ⟨k, hk, rfl, hall, hbel⟩ := hrel
              have HA := hide hall
              have HBEL := hide hbel
              have HWR := hide (HT.out _ _ HW4.out hbel)
              have v1r := (HS2.out _ HWR.out).2.2.2.1.cell 1 _ rfl
              clear hall hbel
              by_cases hlt : k < us.length
              · obtain ⟨g, c, hpm, hcc, hcells⟩ := mrow_get HROW.out (fun u => rfl) hlt
                injection hpm with e1 e2 e3
                subst e1
                clear e2 e3
                have hks : k < r.states.length := by rw [HLEN.out, ← HUS.out]; exact hlt
                obtain ⟨ao, cap, es, hsc, -, hsr⟩ := (HS2.out _ HWR.out).2.1
                injection es with f1 f2 f3
                obtain ⟨sb, so, hsa, hsb, hnums⟩ := hsr (by intro h; rw [h] at hks; simp at hks)
                rw [hsa] at f1
                subst f1
                clear f2 f3 hsa
                have n0 := hnums k hks
                have hmem : us[k] ∈ us := List.getElem_mem hlt
                have hok := HROW.out.ok us[k] hmem
                have HNO : Hid (stOk us[k].m r.states[k] = false → stsB (rs.map (machOf p)) r.states = false) := hide (fun h => by
                  refine sts_no (k := k) (m := us[k].m) (s := r.states[k]) ?_ (List.getElem?_eq_getElem hks) h
                  rw [← HUM.out, List.getElem?_map, List.getElem?_eq_getElem hlt]
                  rfl)
                have HQS : Hid (∀ q, stOk us[k].m r.states[k] = q → ∀ W, Below w5.heap.size w5 W → Calls Tryz.prog 45 #[us[k].val, .int .i64 r.states[k]] W fun e w' => e = .returned (.bool q) ∧ Below W.heap.size W w') := hide (fun q hq W hW => s_l04state hq _ W (hok.at_.carry hW))
                have m0 := (HBEL.out.cell (p := ⟨g, _, none⟩) (World.block_lt_of_cell? w5 _ (hcells 0 _ rfl))).trans (hcells 0 _ rfl)
                have m1 := (HBEL.out.cell (p := ⟨g, _, none⟩) (World.block_lt_of_cell? w5 _ (hcells 1 _ rfl))).trans (hcells 1 _ rfl)
                have m2 := (HBEL.out.cell (p := ⟨g, _, none⟩) (World.block_lt_of_cell? w5 _ (hcells 2 _ rfl))).trans (hcells 2 _ rfl)
                have hsh := hok.shape
                have HST : Hid (∀ j (h : j < us.length) (h2 : j < r.states.length), j < k + 1 → stOk us[k].m r.states[k] = true → stOk us[j].m r.states[j] = true) := hide (fun j h h2 hj hh => by
                  by_cases e : j = k
                  · subst e; exact hh
                  · exact HA.out j h h2 (by omega))
                obtain ⟨u1, hu1⟩ : ∃ u1, u1 = us[k] := ⟨_, rfl⟩
                obtain ⟨s1, hs1⟩ : ∃ s1, s1 = r.states[k] := ⟨_, rfl⟩
                rw [← hu1] at HNO HQS m0 m1 m2 hsh HST
                rw [← hs1] at HNO HQS n0 HST
                clear hu1 hs1 hcells hok hmem hnums hsr
                obtain ⟨q5, hq5⟩ : ∃ q, stOk u1.m s1 = q := ⟨_, rfl⟩
                replace HQS := hide (HQS.out q5 hq5)
                rw [hq5] at HNO HST
                clear hq5
                obtain ⟨sv, ev, m⟩ := u1
                replace hsh : (∃ ps cs, sv = .slice ps m.states.length cs) ∧ ∃ pe ce, ev = .slice pe m.edges.length ce := hsh
                obtain ⟨⟨ps, cs, rfl⟩, ⟨pe, ce, rfl⟩⟩ := hsh
                unfold MU.val at HQS
                replace m0 : wr.cell? ⟨g, k * 3, none⟩ = some (.slice ps m.states.length cs) := m0
                have hkr : k < rs.length := by have := HUS.out; omega
                cases q5
                · replace HNO := hide (HNO.out rfl)
                  go_wp2_with fail
                  go_region_held3 (fun w' => w'.cell? ⟨g, k * 3, none⟩ = some (.slice ps m.states.length cs) ∧ w'.cell? ⟨g, k * 3 + 1, none⟩ = some (.slice pe m.edges.length ce) ∧ w'.cell? ⟨g, k * 3 + 2, none⟩ = some (.int .i64 m.start) ∧ w'.cell? ⟨w.heap.size, 1, none⟩ = some (.slice (some ⟨sb, so, none⟩) rs.length sc) ∧ w'.cell? ⟨sb, so + k, none⟩ = some (.int .i64 s1)) (go_keep)
                    (first
                      | (go_at_call 45; refine (HQS.out _ HBEL.out.drew).mono ?_; rintro e w6 ⟨rfl, hb6⟩; have HB6 : Hid (Below wr.heap.size wr w6) := hide ((Below.refl _ _).drew.trans hb6); have z0 := (HB6.out.cell (p := ⟨g, _, none⟩) (World.block_lt_of_cell? wr _ m0)).trans m0; have z1 := (HB6.out.cell (p := ⟨g, _, none⟩) (World.block_lt_of_cell? wr _ m1)).trans m1; have z2 := (HB6.out.cell (p := ⟨g, _, none⟩) (World.block_lt_of_cell? wr _ m2)).trans m2; have z3 := (HB6.out.cell (p := ⟨w.heap.size, _, none⟩) (World.block_lt_of_cell? wr _ v1r)).trans v1r; have z4 := (HB6.out.cell (p := ⟨sb, _, none⟩) (World.block_lt_of_cell? wr _ n0)).trans n0; clear hb6))
                  all_goals
                    go_wp2_with fail
                    go_ret
                    exact ⟨ret_bool (HB.out.trans (by rw [HNO.out]; rfl)), (HS2.out _ (HT.out _ _ HWR.out HB6.out)).2.2.2.2⟩
                · replace HST := hide (fun j h h2 hj => HST.out j h h2 hj rfl)
                  go_wp2_with fail
                  go_region_held3 (fun w' => w'.cell? ⟨g, k * 3, none⟩ = some (.slice ps m.states.length cs) ∧ w'.cell? ⟨g, k * 3 + 1, none⟩ = some (.slice pe m.edges.length ce) ∧ w'.cell? ⟨g, k * 3 + 2, none⟩ = some (.int .i64 m.start) ∧ w'.cell? ⟨w.heap.size, 1, none⟩ = some (.slice (some ⟨sb, so, none⟩) rs.length sc) ∧ w'.cell? ⟨sb, so + k, none⟩ = some (.int .i64 s1)) (go_keep)
                    (first
                      | (go_at_call 45; refine (HQS.out _ HBEL.out.drew).mono ?_; rintro e w6 ⟨rfl, hb6⟩; have HB6 : Hid (Below wr.heap.size wr w6) := hide ((Below.refl _ _).drew.trans hb6); have z0 := (HB6.out.cell (p := ⟨g, _, none⟩) (World.block_lt_of_cell? wr _ m0)).trans m0; have z1 := (HB6.out.cell (p := ⟨g, _, none⟩) (World.block_lt_of_cell? wr _ m1)).trans m1; have z2 := (HB6.out.cell (p := ⟨g, _, none⟩) (World.block_lt_of_cell? wr _ m2)).trans m2; have z3 := (HB6.out.cell (p := ⟨w.heap.size, _, none⟩) (World.block_lt_of_cell? wr _ v1r)).trans v1r; have z4 := (HB6.out.cell (p := ⟨sb, _, none⟩) (World.block_lt_of_cell? wr _ n0)).trans n0; clear hb6))
                  all_goals
                    go_wp2_with fail
                    go_roundw
                    case rel => exact ⟨k + 1, hlt, by go_num, fun j h h2 hj => HST.out j h h2 hj, HBEL.out.trans (HB6.out.mono HBEL.out.size)⟩
                    case measure => simp [intOf]; omega
              · have hfin : stsB (rs.map (machOf p)) r.states = true := by
                  refine sts_all (by rw [List.length_map]; exact HLEN.out) (fun j hj => ?_)
                  rw [List.length_map] at hj
                  have h1 : j < us.length := by rw [HUS.out]; exact hj
                  have h2 : j < r.states.length := by rw [HLEN.out]; exact hj
                  have h3 := HA.out j h1 h2 (by omega)
                  have h4 : (rs.map (machOf p))[j]? = some us[j].m := by rw [← HUM.out, List.getElem?_map, List.getElem?_eq_getElem h1]; rfl
                  have h5 := (List.getElem?_eq_some_iff.1 h4).2
                  rw [h5]
                  exact h3
                have HFIN := hide (HB.out.trans (by rw [hfin]; rfl : _ = true))
                clear hfin
                go_wp2_with fail
                go_ret
                exact ⟨ret_bool HFIN.out, (HS2.out _ HWR.out).2.2.2.2⟩
        · go_enter Tryz.func14, Tryz.ntmps14
          go_wp2_with (first
            | (go_at_call 43; refine (HALL.out _ HW2.out).mono ?_; rintro e w4 ⟨rv, mv, us, rfl, ht4, hrow4, hum4, hb4⟩; have HT4 := hide ht4; obtain ⟨tb, to, tc, rfl, -⟩ := ht4; have HROW := hide hrow4; have HUM := hide hum4; have HW4 := hide (HT.out _ _ HW2.out hb4); obtain ⟨pm, cm, hpm⟩ := owns_shape hrow4.own; subst hpm; have X4 := (HS2.out _ HW4.out).2.2.2.1; have v1 := X4.cell 1 _ rfl; have v2 := X4.cell 2 _ rfl; clear hrow4 hum4 hb4 X4)
            | (go_at_call 42; refine (st_time HQ2.out _).mono ?_; rintro e w3 ⟨rfl, rfl⟩)
            | (go_at_call 41; refine (s_net HQ1.out _ _ HOK.out (HS2.out _ HW1.out).2.2.1).mono ?_; rintro e w2 ⟨rfl, hb2⟩; have HW2 := hide (HT.out _ _ HW1.out hb2); have X2 := (HS2.out _ HW2.out).2.2.2.1; have y0 := X2.cell 0 _ rfl; have y3 := X2.cell 3 _ rfl; clear hb2 X2)
            | (go_at_call 9; refine (s_sound r.plan _ HSN.out _ _ HF.out.1.2 (HS2.out _ (Below.refl _ _)).1).mono ?_; rintro e w1 ⟨rfl, hb1⟩; have HW1 := hide (HT.out _ _ (Below.refl _ _) hb1); have X1 := (HS2.out _ HW1.out).2.2.2.1; have x2 := X1.cell 2 _ rfl; clear hb1 X1))
          go_ret
          exact ⟨ret_bool (HB.out.trans (by rw [sts_len (by simpa using hlen)]; simp)), (HS2.out _ HW4.out).2.2.2.2⟩
end Go.Proofs.YtaaeledleldllaaGreat
namespace Go.Proofs.YtaaeledleldllaaGreat
open Go.RowKit
attribute [local go_sem ↓] Go.wp_at_zero Go.wp_at_succ

set_option maxRecDepth 100000 in
set_option maxHeartbeats 400000 in
theorem own_msg (m : RMsg) (w : World) (hf : m.fit) :
    Calls Tryz.prog 182 #[m.val] w fun e w' => e = .returned m.val ∧ Below w.heap.size w w' := by
  have HF := hide hf
  unfold RMsg.val
  have hi : (Tryz.prog.info? 129).map (·.size) = some 4 := by
    obtain ⟨i0, hi, _, hz1, _⟩ := info_parts Tryz.infoRMsg
    rw [hi]; simp [hz1]
  have HI := hide hi
  clear hi hf
  go_enter Tryz.func182, Tryz.ntmps182
  go_wp2_with fail
  refine wp_region_tail 12 (by kernel_rfl) (by kernel_rfl) (fun W hW => ?_)
  simp only [List.take_succ_cons, List.take_zero, List.drop_succ_cons, List.drop_zero]
  have hne := grown_some W
  have HBW : Hid (Below w.heap.size w W) := hide (by rw [hW]; exact (malloc1 _ _).trans ((malloc1 _ _).mono (by simp)))
  have f0 := grown_cell (w := W) (b := w.heap.size) (o := 0) (v := .string m.frm) (by rw [hW]; simp)
  have f1 := grown_cell (w := W) (b := w.heap.size) (o := 1) (v := .string m.to) (by rw [hW]; simp)
  have f2 := grown_cell (w := W) (b := w.heap.size) (o := 2) (v := .string m.label) (by rw [hW]; simp)
  have f3 := grown_cell (w := W) (b := w.heap.size) (o := 3) (v := .int .i64 m.sort) (by rw [hW]; simp)
  have hlW : w.heap.size + 1 < W.heap.size := by rw [hW]; simp
  have HG : Hid (∀ o, o < 4 → (∃ y, W.cell? ⟨w.heap.size + 1, o, none⟩ = some y) ∧ W.frozen? ⟨w.heap.size + 1, o, none⟩ = false) := hide (fun o ho => by
    rw [hW]
    rcases o with _ | _ | _ | _ | o
    all_goals first | (exfalso; omega) | (constructor; exact ⟨_, by simp; rfl⟩; simp))
  clear hW
  repeat (go_big_quiet_step (first
    | (go_at_call_of 125 m.frm; exact grown_more (clone_calls _ _ HF.out.1))
    | (go_at_call_of 125 m.to; exact grown_more (clone_calls _ _ HF.out.2.1))
    | (go_at_call_of 125 m.label; exact grown_more (clone_calls _ _ HF.out.2.2))))
  refine wpQuiet_nil ?_
  intro w2 hw2
  have HB2 : Hid (Below w.heap.size w w2) := hide (HBW.out.trans (hw2.mono HBW.out.size))
  obtain ⟨⟨y0, c0⟩, z0⟩ := HG.out 0 (by omega)
  obtain ⟨⟨y1, c1⟩, z1⟩ := HG.out 1 (by omega)
  obtain ⟨⟨y2, c2⟩, z2⟩ := HG.out 2 (by omega)
  obtain ⟨⟨y3, c3⟩, z3⟩ := HG.out 3 (by omega)
  replace c0 := (hw2.cell (p := ⟨w.heap.size + 1, 0, none⟩) hlW).trans c0
  replace c1 := (hw2.cell (p := ⟨w.heap.size + 1, 1, none⟩) hlW).trans c1
  replace c2 := (hw2.cell (p := ⟨w.heap.size + 1, 2, none⟩) hlW).trans c2
  replace c3 := (hw2.cell (p := ⟨w.heap.size + 1, 3, none⟩) hlW).trans c3
  replace z0 := (hw2.frozen (p := ⟨w.heap.size + 1, 0, none⟩) hlW).trans z0
  replace z1 := (hw2.frozen (p := ⟨w.heap.size + 1, 1, none⟩) hlW).trans z1
  replace z2 := (hw2.frozen (p := ⟨w.heap.size + 1, 2, none⟩) hlW).trans z2
  replace z3 := (hw2.frozen (p := ⟨w.heap.size + 1, 3, none⟩) hlW).trans z3
  clear hw2 hne f0 f1 f2 f3 HG
  go_wp2_with fail
  obtain ⟨W3, hW3⟩ : ∃ W3, W3 = putMsg w2 (w.heap.size + 1) 0 m := ⟨_, rfl⟩
  have hAt : RMsgAt W3 (w.heap.size + 1) 0 m := by
    rw [hW3]
    refine putMsg_at _ _ _ _ (fun i hi => ?_)
    rcases i with _ | _ | _ | _ | i
    · exact ⟨_, c0⟩
    · exact ⟨_, c1⟩
    · exact ⟨_, c2⟩
    · exact ⟨_, c3⟩
    · omega
  have hB3 : Below w.heap.size w W3 := by
    rw [hW3]
    exact putMsg_below HB2.out (by omega) _ _
  have hgo : W3 = ((((w2.setCell ⟨w.heap.size + 1, 0, none⟩ (.string m.frm)).setCell ⟨w.heap.size + 1, 1, none⟩ (.string m.to)).setCell ⟨w.heap.size + 1, 2, none⟩ (.string m.label)).setCell ⟨w.heap.size + 1, 3, none⟩ (.int .i64 m.sort)) := hW3
  rw [← hgo]
  obtain ⟨r0, r1, r2, r3⟩ := hAt
  clear hW3 hgo c0 c1 c2 c3 z0 z1 z2 z3
  refine bodyPost_ret_by (v := .agg #[.string m.frm, .string m.to, .string m.label, .int .i64 m.sort]) ?_ rfl ⟨rfl, hB3⟩
  unfold results
  go_simp
set_option maxRecDepth 100000 in
set_option maxHeartbeats 1000000 in
theorem own_net (l : List RMsg) (v : Value) (w : World) (h4 : l.length ≤ 4096) (hf : ∀ m ∈ l, m.fit) (hv : RMsgSl w w.heap.size v l) :
    Calls Tryz.prog 137 #[v] w fun e w' => ∃ v', e = .returned v' ∧ RMsgOwn w' w.heap.size v' l ∧ Below w.heap.size w w' := by
  have HF := hide hf
  obtain ⟨i0, hi, hz0, hz1, hz2⟩ := info_parts Tryz.infoRMsg
  have HI := hide (And.intro hi (And.intro hz0 (And.intro hz1 hz2)))
  obtain ⟨ao, cap, rfl, hc, hm, hr⟩ := hv
  have HR := hide hr
  clear hr hf hi hz0 hz1 hz2
  go_enter Tryz.func137, Tryz.ntmps137
  go_wp2_with fail
  go_loopw [3, 8] (fun all i wr => ∃ k : Nat, k ≤ l.length ∧ i = .int .i64 k ∧ wr.ownsRow w.heap.size 129 4 all k ((l.take k).flatMap RMsg.cells) ∧ Below w.heap.size w wr) (fun _ i _ => l.length - (intOf i).toNat)
  case atStart => exact ⟨0, Nat.zero_le _, rfl, RMsgOwn.nil _ _, Below.refl _ _⟩
  case round =>
    obtain ⟨k, hk, rfl, hown, hbel⟩ := hrel
    have HOWN := hide hown
    have HBEL := hide hbel
    obtain ⟨p, cp, rfl⟩ := owns_shape hown
    clear hown hbel
    by_cases hlt : k < l.length
    · obtain ⟨b, o, rfl, hbB, hrow⟩ := HR.out (by intro h; simp [h] at hlt)
      have hnode := (hrow.get k hlt).carry hbB HBEL.out
      have HTK : Hid (l.take (k + 1) = l.take k ++ [l[k]]) := hide (List.take_succ_eq_append_getElem hlt)
      have hmem : l[k] ∈ l := List.getElem_mem hlt
      obtain ⟨x1, hx1⟩ : ∃ x1, x1 = l[k] := ⟨_, rfl⟩
      rw [← hx1] at hnode hmem HTK
      have HFX := hide (HF.out x1 hmem)
      obtain ⟨d0, d1, d2, d3⟩ := hnode
      clear hx1 hrow hmem
      go_wp2_with (first
        | (go_at_call 182; refine (own_msg x1 _ HFX.out).mono ?_; rintro e w3 ⟨rfl, hb3⟩; have HB3 : Hid (Below wr.heap.size wr w3) := hide ((malloc1 _ _).trans (hb3.mono (by simp))); clear hb3; unfold RMsg.val)
        | (at_builtin; refine wpList_append_own _ rfl (.tmp 12) (.tmp 15) 35 rfl w.heap.size 129 i0 (.agg #[.string ByteArray.empty, .string ByteArray.empty, .string ByteArray.empty, .int .i64 0]) 4 56 Tryz.underlying35 HI.out.1 HI.out.2.1 HI.out.2.2.1 HI.out.2.2.2 rfl (by decide) (.slice p k cp) k ((l.take k).flatMap RMsg.cells) rfl (owns_below HOWN.out (HB3.out.trans ((malloc1 _ _).mono HB3.out.size))) ⟨w3.heap.size, 0, none⟩ 1 1 x1.cells rfl rfl (fun j u hj => new_row1 _ _ _ j u hj) (RMsg.cells_one _) (by unfold maxLen; omega) (by omega) (by have := HB3.out.size; have := HBEL.out.size; simp; omega) ?_; intro v4 w4 hown4 hgr4 _; have HOWN4 := hide hown4; have HGR4 := hide hgr4; clear hown4 hgr4))
      go_roundw
      case rel =>
        have hA : Apart wr w4 (vblocks (.slice p k cp)) := by
          have := (below_apart (HB3.out.trans ((malloc1 w3 _).mono HB3.out.size))).trans (grownBy_apart HGR4.out)
          rwa [List.nil_append] at this
        refine ⟨k + 1, hlt, by go_num, ?_, HBEL.out.trans (hA.below HBEL.out.size (owns_fresh HOWN.out).lo)⟩
        rw [HTK.out, List.flatMap_append]
        simpa using HOWN4.out
      case measure => simp [intOf]; omega
    · have HK : Hid (RMsgOwn wr w.heap.size (.slice p k cp) l) := hide (by
        have := HOWN.out
        rw [List.take_of_length_le (by omega)] at this
        unfold RMsgOwn
        rwa [show l.length = k by omega])
      go_wp2_with fail
      go_ret
      exact ⟨_, rfl, HK.out, HBEL.out⟩
end Go.Proofs.YtaaeledleldllaaGreat
namespace Go.Proofs.YtaaeledleldllaaGreat
open Go.RowKit

def NuOwn (w : World) (base : Nat) (v : Value) (l : List Int) : Prop := w.ownsRow base 2 1 v l.length (l.map fun z => .int .i64 z)
theorem NuOwn.sl {w : World} {base : Nat} {v : Value} {l : List Int} (h : NuOwn w base v l) (hl : l.length ≤ 4294967296) : NumSl w w.heap.size v l := by
  have hf := (owns_fresh h).hi
  obtain ⟨h1, hh⟩ := h
  rcases hh with ⟨rfl, h0⟩ | ⟨g, cap, cur, rfl, hg, hblk, hc, hm, hcs, htk⟩
  · have : l = [] := List.length_eq_zero_iff.1 h0
    subst this
    exact ⟨none, 0, rfl, Nat.le_refl _, by simp, fun h => absurd rfl h⟩
  · refine ⟨_, cap, rfl, hc, hl, fun hne => ⟨g, 0, rfl, hf g (by simp [vblocks, cellBlocks]), fun j hj => ?_⟩⟩
    have e1 : (l.map fun z => Value.int .i64 z)[j]? = some (.int .i64 l[j]) := by rw [List.getElem?_map, List.getElem?_eq_getElem hj]; rfl
    rw [← htk, List.getElem?_take] at e1
    split at e1
    · rw [World.cell?, hblk, Nat.zero_add]
      simpa using e1
    · cases e1
set_option maxRecDepth 100000 in
set_option maxHeartbeats 1000000 in
theorem clone_nums (l : List Int) (v : Value) (w : World) (hl : l.length ≤ 1048576) (hv : NumSl w w.heap.size v l) :
    Calls Tryz.prog 136 #[v] w fun e w' => ∃ v', e = .returned v' ∧ NuOwn w' w.heap.size v' l ∧ Below w.heap.size w w' := by
  obtain ⟨i0, hi, hz0, hz1, hz2⟩ := info_parts Tryz.infoI64
  have HI := hide (And.intro hi (And.intro hz0 (And.intro hz1 hz2)))
  obtain ⟨ao, cap, rfl, hc1, -, hr⟩ := hv
  have HR := hide hr
  have qT : ∀ (w : World) (a : Option Addr) (n c n' c' : Nat), (binOp .eql 29 (.slice a n c) (.slice none n' c')).run Tryz.prog w = .ok (.bool a.isNone) w := fun w a n c n' c' => Lib.run_eql_slice_nil w _ _ a n c n' c' Tryz.underlying29
  clear hi hz0 hz1 hz2 hr
  cases ao with
  | none =>
    have hl0 : l = [] := by
      cases l with
      | nil => rfl
      | cons a l => obtain ⟨b, o, e, -⟩ := HR.out (by simp); cases e
    subst hl0
    go_enter Tryz.func136, Tryz.ntmps136
    go_wp2_with fail
    go_ret
    exact ⟨_, rfl, owns_nil _ _ _ _, Below.refl _ _⟩
  | some ad =>
    have HC : Hid (∀ (W : World), Below w.heap.size w W → ∀ j u, (l.map fun z => Value.int .i64 z)[j]? = some u → W.cell? (ad.add j) = some u) := hide (fun W hb j u hj => by
      rw [List.getElem?_map] at hj
      cases hx : l[j]? with
      | none => rw [hx] at hj; cases hj
      | some z =>
        obtain ⟨hlt, he⟩ := List.getElem?_eq_some_iff.1 hx
        obtain ⟨b, o, e, hb', hn⟩ := HR.out (by intro h; rw [h] at hlt; simp at hlt)
        injection e with e
        subst e
        rw [hx] at hj
        simp only [Option.map_some, Option.some.injEq] at hj
        rw [← hj, ← he]
        have e2 : (⟨b, o, none⟩ : Addr).add j = ⟨b, o + j, none⟩ := by unfold Addr.add; simp
        rw [e2]
        exact (hb.cell (p := ⟨b, o + j, none⟩) hb').trans (hn j hlt))
    go_enter Tryz.func136, Tryz.ntmps136
    go_wp2_with (at_builtin; refine wpList_append_own_at _ rfl (.tmp 5) (.tmp 6) 29 rfl w.heap.size 2 i0 (.int .i64 0) 1 8 Tryz.underlying29 HI.out.1 HI.out.2.1 HI.out.2.2.1 HI.out.2.2.2 rfl (by decide) (.slice (some ⟨w.heap.size, 0, none⟩) 0 0) 0 [] rfl (owns_empty _ _ _ _ w.heap.size (Nat.le_refl _) (mheap_new _ _ _ rfl)) ad l.length cap (l.map fun z => .int .i64 z) rfl (by simp) (HC.out _ (malloc1 _ _)) (fun u hu => by obtain ⟨z, _, rfl⟩ := List.mem_map.1 hu; rfl) (by unfold maxLen; omega) (by omega) (by simp) ?_; intro v4 w4 hown4 hgr4 _ hat4; have HO4 := hide hown4; have HG4 := hide hgr4; obtain ⟨p4, c4, rfl⟩ := owns_shape hown4; clear hown4 hgr4 hat4)
    go_ret
    have hb : Below w.heap.size w w4 := (malloc1 w _).trans ((grownBy_apart HG4.out).below (by simp) (by simp [vblocks, cellBlocks]))
    refine ⟨_, rfl, ?_, hb⟩
    have := HO4.out
    rw [Nat.zero_add, List.nil_append] at this
    simpa [NuOwn] using this
theorem nd_clen (l : List Nd) : (l.flatMap Nd.cells).length = l.length * 5 := by
  induction l with
  | nil => rfl
  | cons a l ih => rw [List.flatMap_cons, List.length_append, ih, Nd.cells_len, List.length_cons]; omega
set_option maxRecDepth 100000 in
set_option maxHeartbeats 1000000 in
theorem clone_nds (l : List Nd) (v : Value) (w : World) (hl : l.length ≤ 1000) (hne : l ≠ []) (hv : SlAt w w.heap.size v l) :
    Calls Tryz.prog 141 #[v] w fun e w' => ∃ v', e = .returned v' ∧ NdOwn w' w.heap.size v' l ∧ Below w.heap.size w w' := by
  obtain ⟨i0, hi, hz0, hz1, hz2⟩ := info_parts Tryz.infoN
  have HI := hide (And.intro hi (And.intro hz0 (And.intro hz1 hz2)))
  obtain ⟨ao, cap, rfl, hc1, -, hr⟩ := hv
  obtain ⟨b, o, rfl, hbB, hrow⟩ := hr hne
  have qT : ∀ (w : World) (a : Option Addr) (n c n' c' : Nat), (binOp .eql 25 (.slice a n c) (.slice none n' c')).run Tryz.prog w = .ok (.bool a.isNone) w := fun w a n c n' c' => Lib.run_eql_slice_nil w _ _ a n c n' c' Tryz.underlying25
  have HC : Hid (∀ (W : World), Below w.heap.size w W → ∀ j u, (l.flatMap Nd.cells)[j]? = some u → W.cell? ((⟨b, o, none⟩ : Addr).add j) = some u) := hide (fun W hb j u hj => by
    have e2 : (⟨b, o, none⟩ : Addr).add j = ⟨b, o + j, none⟩ := by unfold Addr.add; simp
    rw [e2]
    exact row_cells (hrow.carry hbB hb) j u hj)
  clear hi hz0 hz1 hz2 hr hrow
  go_enter Tryz.func141, Tryz.ntmps141
  go_wp2_with (at_builtin; refine wpList_append_own_at _ rfl (.tmp 5) (.tmp 6) 25 rfl w.heap.size 68 i0 (.agg #[.int .i64 0, .string ByteArray.empty, .string ByteArray.empty, .int .i64 0, .int .i64 0]) 5 56 Tryz.underlying25 HI.out.1 HI.out.2.1 HI.out.2.2.1 HI.out.2.2.2 rfl (by decide) (.slice (some ⟨w.heap.size, 0, none⟩) 0 0) 0 [] rfl (owns_empty _ _ _ _ w.heap.size (Nat.le_refl _) (mheap_new _ _ _ rfl)) ⟨b, o, none⟩ l.length cap (l.flatMap Nd.cells) rfl (nd_clen l) (HC.out _ (malloc1 _ _)) (nds_one l) (by unfold maxLen; omega) (by omega) (by simp) ?_; intro v4 w4 hown4 hgr4 _ hat4; have HO4 := hide hown4; have HG4 := hide hgr4; obtain ⟨p4, c4, rfl⟩ := owns_shape hown4; clear hown4 hgr4 hat4)
  go_ret
  have hb : Below w.heap.size w w4 := (malloc1 w _).trans ((grownBy_apart HG4.out).below (by simp) (by simp [vblocks, cellBlocks]))
  refine ⟨_, rfl, ?_, hb⟩
  have := HO4.out
  rw [Nat.zero_add, List.nil_append] at this
  simpa [NdOwn] using this
theorem own_plan (l : List Nd) (v : Value) (w : World) (hl : l.length ≤ 1000) (hne : l ≠ []) (hf : ∀ n ∈ l, n.fit) (hv : SlAt w w.heap.size v l) :
    Calls Tryz.prog 92 #[v] w fun e w' => ∃ v', e = .returned v' ∧ NdOwn w' w.heap.size v' l ∧ Below w.heap.size w w' := by
  have HC := hide (clone_nds l v w hl hne hv)
  have HF := hide hf
  obtain ⟨ao, cap, rfl, -⟩ := hv
  clear hf
  go_enter Tryz.func92, Tryz.ntmps92
  go_wp2_with (first
    | (go_at_call 78; refine (own_texts l w.heap.size _ _ HO1.out (by omega) HF.out).mono ?_; rintro e w2 ⟨rfl, ho2, ha2⟩; have HO2 := hide ho2; have HA2 := hide ha2; clear ho2 ha2)
    | (go_at_call 141; refine HC.out.mono ?_; rintro e w1 ⟨v1, rfl, ho1, hb1⟩; obtain ⟨p1, c1, rfl⟩ := owns_shape ho1; have HO1 := hide ho1; have HB1 := hide hb1; clear ho1 hb1))
  go_ret
  exact ⟨_, rfl, HO2.out, HB1.out.trans (HA2.out.below HB1.out.size (owns_fresh HO1.out).lo)⟩

structure OrAns (w w' : World) (e : Ending) (r : Rn) : Prop where
  ans : ∃ pv sv nv, e = .returned (rnV pv sv nv r.steps) ∧ NdOwn w' w.heap.size pv r.plan ∧ NuOwn w' w.heap.size sv r.states ∧ RMsgOwn w' w.heap.size nv r.net ∧ (∀ b ∈ vblocks pv, b ∉ vblocks sv ∧ b ∉ vblocks nv) ∧ (∀ b ∈ vblocks sv, b ∉ vblocks nv)
  bel : Below w.heap.size w w'
set_option maxRecDepth 100000 in
set_option maxHeartbeats 2000000 in
theorem own_run (r : Rn) (v : Value) (w : World) (hf : r.fit) (h40 : r.plan.length ≤ 40) (hne : r.plan ≠ []) (h36 : r.net.length ≤ 36) (hv : RnAt w v r) :
    Calls Tryz.prog 87 #[v] w fun e w' => OrAns w w' e r := by
  obtain ⟨pa, pc, sa, sc, na, nc, rfl, h1, h2, h3⟩ := hv.at_
  have HC : Hid (∀ W, Below w.heap.size w W → SlAt W W.heap.size (.slice pa r.plan.length pc) r.plan ∧ NumSl W W.heap.size (.slice sa r.states.length sc) r.states ∧ RMsgSl W W.heap.size (.slice na r.net.length nc) r.net) := hide (fun W hb => ⟨(h1.carry hb).up hb.size, h2.on hb, (h3.carry hb).up hb.size⟩)
  have HF := hide hf
  have HNE := hide hne
  have HW : Hid (∀ (o1 o2 : Obj), Below w.heap.size w ((w.alloc o1).alloc o2)) := hide (fun o1 o2 => (malloc1 _ _).trans ((malloc1 _ _).mono (by simp)))
  have HX : Hid (∀ (o : Obj), BoxL ((w.alloc (.cells (rnC (.slice pa r.plan.length pc) (.slice sa r.states.length sc) (.slice na r.net.length nc) r.steps).toArray 37)).alloc o) w.heap.size (rnC (.slice pa r.plan.length pc) (.slice sa r.states.length sc) (.slice na r.net.length nc) r.steps)) := hide (fun o => (BoxL.new w _ _).keep (below_apart (malloc1 _ _)) (by simp))
  have HY : Hid (∀ (o : Obj), BoxL ((w.alloc o).alloc (.cells (rnC (.slice none 0 0) (.slice none 0 0) (.slice none 0 0) 0).toArray 37)) (w.heap.size + 1) (rnC (.slice none 0 0) (.slice none 0 0) (.slice none 0 0) 0)) := hide (fun o => by have := BoxL.new (w.alloc o) (rnC (.slice none 0 0) (.slice none 0 0) (.slice none 0 0) 0) 37; simpa using this)
  have hsl : r.states.length ≤ 1048576 := hf.2.1
  clear h1 h2 h3 hv hf hne
  unfold rnV rnC at *
  go_enter Tryz.func87, Tryz.ntmps87
  go_wp2_with fail
  have X0 := HX.out (.cells #[.slice none 0 0, .slice none 0 0, .slice none 0 0, .int .i64 0] 37)
  have a0 := X0.cell 0 _ rfl
  have a1 := X0.cell 1 _ rfl
  have a2 := X0.cell 2 _ rfl
  have a3 := X0.cell 3 _ rfl
  have Y0 := HY.out (.cells #[.slice pa r.plan.length pc, .slice sa r.states.length sc, .slice na r.net.length nc, .int .i64 r.steps] 37)
  have b0 := Y0.cell 0 _ rfl
  have b1 := Y0.cell 1 _ rfl
  have b2 := Y0.cell 2 _ rfl
  have b3 := Y0.cell 3 _ rfl
  have fb := Y0.fz
  obtain ⟨W0, hW0⟩ : ∃ W0, W0 = (w.alloc (.cells #[.slice pa r.plan.length pc, .slice sa r.states.length sc, .slice na r.net.length nc, .int .i64 r.steps] 37)).alloc (.cells #[.slice none 0 0, .slice none 0 0, .slice none 0 0, .int .i64 0] 37) := ⟨_, rfl⟩
  have HB0 : Hid (Below w.heap.size w W0) := hide (by rw [hW0]; exact HW.out _ _)
  have hz0 : W0.heap.size = w.heap.size + 2 := by rw [hW0]; simp
  rw [← hW0] at X0 Y0 a0 a1 a2 a3 b0 b1 b2 b3 fb ⊢
  have HX0 := hide X0
  have HY0 := hide Y0
  have HZ0 := hide hz0
  clear hW0 X0 Y0 HX HY hz0
  go_region_held3 (fun w' => w'.cell? ⟨w.heap.size, 0, none⟩ = some (.slice pa r.plan.length pc) ∧ w'.cell? ⟨w.heap.size, 1, none⟩ = some (.slice sa r.states.length sc) ∧ w'.cell? ⟨w.heap.size, 2, none⟩ = some (.slice na r.net.length nc) ∧ w'.cell? ⟨w.heap.size, 3, none⟩ = some (.int .i64 r.steps)) (go_keep)
    (first
      | (go_at_call 137; refine (own_net r.net _ _ (by omega) HF.out.2.2.2 (HC.out _ HB2.out).2.2).mono ?_; rintro e w3 ⟨v3, rfl, ho3, hb3⟩; have HO3 := hide ho3; obtain ⟨p3, c3, rfl⟩ := owns_shape ho3; have HB3 : Hid (Below w.heap.size w w3) := hide (HB2.out.trans (hb3.mono HB2.out.size)); have HB3' := hide hb3; have HX3 := hide (HX2.out.keep (below_apart hb3) (by simp)); have HY3 := hide (HY2.out.keep (below_apart hb3) (by simp)); have k0 := HX3.out.cell 0 _ rfl; have k1 := HX3.out.cell 1 _ rfl; have k2 := HX3.out.cell 2 _ rfl; have k3 := HX3.out.cell 3 _ rfl; have j0 := HY3.out.cell 0 _ rfl; have j1 := HY3.out.cell 1 _ rfl; have j2 := HY3.out.cell 2 _ rfl; have j3 := HY3.out.cell 3 _ rfl; have fj := HY3.out.fz; clear ho3 hb3)
      | (go_at_call 136; refine (clone_nums r.states _ _ hsl (HC.out _ HB1.out).2.1).mono ?_; rintro e w2 ⟨v2, rfl, ho2, hb2⟩; have HO2 := hide ho2; obtain ⟨p2, c2, rfl⟩ := owns_shape ho2; have HB2 : Hid (Below w.heap.size w w2) := hide (HB1.out.trans (hb2.mono HB1.out.size)); have HB2' := hide hb2; have HX2 := hide (HX1.out.keep (below_apart hb2) (by simp)); have HY2 := hide (HY1.out.keep (below_apart hb2) (by simp)); have k0 := HX2.out.cell 0 _ rfl; have k1 := HX2.out.cell 1 _ rfl; have k2 := HX2.out.cell 2 _ rfl; have k3 := HX2.out.cell 3 _ rfl; have j0 := HY2.out.cell 0 _ rfl; have j1 := HY2.out.cell 1 _ rfl; have j2 := HY2.out.cell 2 _ rfl; have j3 := HY2.out.cell 3 _ rfl; have fj := HY2.out.fz; clear ho2 hb2)
      | (go_at_call 92; refine (own_plan r.plan _ _ (by omega) HNE.out HF.out.1.2 (HC.out _ HB0.out.drew).1).mono ?_; rintro e w1 ⟨v1, rfl, ho1, hb1⟩; have HO1 := hide ho1; obtain ⟨p1, c1, rfl⟩ := owns_shape ho1; have HB1 : Hid (Below w.heap.size w w1) := hide (HB0.out.drew.trans (hb1.mono HB0.out.size)); have hb1' : Below W0.heap.size W0 w1 := (Below.refl _ _).drew.trans hb1; have HB1' := hide hb1'; have HX1 := hide (HX0.out.keep (below_apart hb1') (by simp)); have HY1 := hide (HY0.out.keep (below_apart hb1') (by simp)); have k0 := HX1.out.cell 0 _ rfl; have k1 := HX1.out.cell 1 _ rfl; have k2 := HX1.out.cell 2 _ rfl; have k3 := HX1.out.cell 3 _ rfl; have j0 := HY1.out.cell 0 _ rfl; have j1 := HY1.out.cell 1 _ rfl; have j2 := HY1.out.cell 2 _ rfl; have j3 := HY1.out.cell 3 _ rfl; have fj := HY1.out.fz; clear ho1 hb1 hb1'))
  all_goals
    go_wp2_with fail
    have hA := ap4 w3 (w.heap.size + 1) (.slice p1 r.plan.length c1) (.slice p2 r.states.length c2) (.slice p3 r.net.length c3) (.int .i64 r.steps)
    have hX := (((HY3.out.set 0 (by simp) (.slice p1 r.plan.length c1)).set 1 (by simp) (.slice p2 r.states.length c2)).set 2 (by simp) (.slice p3 r.net.length c3)).set 3 (by simp) (.int .i64 r.steps)
    obtain ⟨W, hW⟩ : ∃ W, W = ((((w3.setCell ⟨w.heap.size + 1, 0, none⟩ (.slice p1 r.plan.length c1)).setCell ⟨w.heap.size + 1, 1, none⟩ (.slice p2 r.states.length c2)).setCell ⟨w.heap.size + 1, 2, none⟩ (.slice p3 r.net.length c3)).setCell ⟨w.heap.size + 1, 3, none⟩ (.int .i64 r.steps)) := ⟨_, rfl⟩
    rw [← hW] at hA hX ⊢
    have i0 := hX.cell 0 _ rfl
    have i1 := hX.cell 1 _ rfl
    have i2 := hX.cell 2 _ rfl
    have i3 := hX.cell 3 _ rfl
    have hz0 := HZ0.out
    have hs1 := HB1'.out.size
    have hs2 := HB2'.out.size
    have hs3 := HB3'.out.size
    have hbW : Below w.heap.size w W := HB3.out.trans (hA.below (by omega) (fun b hb => by simp at hb; omega))
    have l1 : ∀ b ∈ vblocks (.slice p1 r.plan.length c1), W0.heap.size ≤ b ∧ b < w1.heap.size := fun b hb => ⟨(owns_fresh HO1.out).lo b hb, (owns_fresh HO1.out).hi b hb⟩
    have l2 : ∀ b ∈ vblocks (.slice p2 r.states.length c2), w1.heap.size ≤ b ∧ b < w2.heap.size := fun b hb => ⟨(owns_fresh HO2.out).lo b hb, (owns_fresh HO2.out).hi b hb⟩
    have l3 : ∀ b ∈ vblocks (.slice p3 r.net.length c3), w2.heap.size ≤ b := fun b hb => (owns_fresh HO3.out).lo b hb
    refine bodyPost_ret_by (v := .agg #[.slice p1 r.plan.length c1, .slice p2 r.states.length c2, .slice p3 r.net.length c3, .int .i64 r.steps]) ?_ rfl ⟨⟨_, _, _, rfl, ?_, ?_, ?_, fun b hb => ⟨fun hm => ?_, fun hm => ?_⟩, fun b hb hm => ?_⟩, hbW⟩
    · unfold results
      go_simp
    · exact owns_down (owns_keep (owns_below (owns_below HO1.out HB2'.out) HB3'.out) hA (fun b hb hm => by have := (l1 b hb).1; simp at hm; omega)) (show w.heap.size ≤ W0.heap.size by omega)
    · exact owns_down (owns_keep (owns_below HO2.out HB3'.out) hA (fun b hb hm => by have := (l2 b hb).1; simp at hm; omega)) (by omega)
    · exact owns_down (owns_keep HO3.out hA (fun b hb hm => by have := l3 b hb; simp at hm; omega)) (by omega)
    · have := (l1 b hb).2; have := (l2 b hm).1; omega
    · have := (l1 b hb).2; have := l3 b hm; omega
    · have := (l2 b hb).2; have := l3 b hm; omega
end Go.Proofs.YtaaeledleldllaaGreat
namespace Go.Proofs.YtaaeledleldllaaGreat
open Go.RowKit

structure PU where
  role : ByteArray
  u : MU
def PU.cells (x : PU) : List Value := .string x.role :: x.u.cells
def PU.val (x : PU) : Value := .agg x.cells.toArray
def PtY (p : Pn 10) (rs : List ByteArray) (k : Nat) (args : Array Value) (W0 W : World) : Prop := ∃ x : PU, args = #[x.val] ∧ rs[k]? = some x.role ∧ x.u.m = machOf p x.role ∧ MUOk W x.u ∧ ∀ b ∈ vblocks x.u.val, W0.heap.size ≤ b ∧ b < W.heap.size
theorem mr_mu {w w' : World} {e : Ending} {m : Mach} (h : MrAns w w' e m 0) (hs : m.states.length ≤ 40) (he : m.edges.length ≤ 80) : ∃ u : MU, e = .returned (.agg #[u.sv, u.ev, .int .i64 u.m.start, .int .i64 0]) ∧ u.m = m ∧ MUOk w' u ∧ (∀ b ∈ vblocks u.val, w.heap.size ≤ b ∧ b < w'.heap.size) ∧ Below w.heap.size w w' := by
  obtain ⟨sv, ev, rfl, h1, h2, h3⟩ := h.ans
  obtain ⟨ps, cs, rfl⟩ := owns_shape h1
  obtain ⟨pe, ce, rfl⟩ := owns_shape h2
  refine ⟨⟨_, _, m⟩, rfl, rfl, ⟨⟨_, _, rfl, h1.sl (by omega), h2.sl (by omega)⟩, ⟨_, _, rfl⟩, ⟨_, _, rfl⟩⟩, fun b hb => ?_, h.bel⟩
  rw [MU.val, two_blocks, List.mem_append] at hb
  rcases hb with hb | hb
  · exact ⟨h1.fresh.lo b hb, h1.fresh.hi b hb⟩
  · exact ⟨h2.fresh.lo b hb, h2.fresh.hi b hb⟩
theorem i_partMach {ns : List Nd} {p : Pn 10} (hs : SPlan ns p) (hf : ∀ n ∈ ns, n.fit) {role : ByteArray} (hr : role ∈ rolesS ns) (v : Value) (W : World) (hv : SlAt W W.heap.size v ns) :
    Calls Tryz.prog 37 #[v, .string role] W fun e w' => ∃ q, e = .returned (.agg #[q, .int .i64 0]) ∧ (∃ qa qn qc, q = .slice qa qn qc) ∧ Below W.heap.size W w' ∧ ∀ W2, Below w'.heap.size w' W2 → Calls Tryz.prog 183 #[q] W2 fun e w2 => ∃ u : MU, e = .returned (.agg #[u.sv, u.ev, .int .i64 u.m.start, .int .i64 0]) ∧ u.m = machOf p role ∧ MUOk w2 u ∧ (∀ b ∈ vblocks u.val, W2.heap.size ≤ b ∧ b < w2.heap.size) ∧ Below W2.heap.size W2 w2 := by
  obtain ⟨z, hz⟩ := role_mach hs hr
  have hnm := spl_names hs hr
  have hfz : fitL (rowN 10 z) := (part_sz role 10 p z hs.pl hz.part).2 (by rw [← hs.row]; exact hf)
  refine (i_partOf ns role (rowN 10 z) 0 (.inr ⟨by have := hs.len; omega, by omega, .inr ⟨by rw [hs.right, hnm.1]; rfl, p, hs.row, hs.pl, hs.len, .inr ⟨z, hz.part, rfl, rfl⟩⟩⟩) v W hf (by unfold maxLen; omega) hv).mono ?_
  rintro e w' ⟨q, rfl, hq, hb⟩
  obtain ⟨qa, qc, hqs⟩ := owns_shape hq
  refine ⟨q, rfl, ⟨_, _, _, hqs⟩, hb, fun W2 hW2 => ?_⟩
  have hsl : SlAt W2 W2.heap.size q (rowN 10 z) := by
    have h1 := (hq.below hW2).rdS (by have := hz.len; omega)
    exact rd_slat h1 (fun g hg => hg.2)
  have h := i_machineOf (rowN 10 z) q W2 hfz hsl
  rw [hz.moT, hz.moC] at h
  exact h.mono fun e w2 h2 => mr_mu h2 hz.sts hz.eds
theorem field_part (a : Option Addr) (b c : Nat) (z : Int) (W : World) : (Instr.field 73 (.agg #[.slice a b c, .int .i64 z]) 0).run Tryz.prog W = .ok (.slice a b c) W := by kernel_rfl
theorem field_mach (a : Option Addr) (b c : Nat) (a' : Option Addr) (b' c' : Nat) (s z : Int) (W : World) : (Instr.field 241 (.agg #[.slice a b c, .slice a' b' c', .int .i64 s, .int .i64 z]) 0).run Tryz.prog W = .ok (.agg #[.slice a b c, .slice a' b' c', .int .i64 s]) W := by kernel_rfl
def machZ : Obj := .cells #[.slice none 0 0, .slice none 0 0, .int .i64 0] 59
theorem set3_ap (w : World) (b : Nat) (y0 y1 y2 : Value) : Apart w (((w.setCell ⟨b, 0, none⟩ y0).setCell ⟨b, 1, none⟩ y1).setCell ⟨b, 2, none⟩ y2) [b] := ((setCell_apart w b 0 y0).setCell 1 y1).setCell 2 y2
theorem i_machineIn {ns : List Nd} {p : Pn 10} (hs : SPlan ns p) (hf : ∀ n ∈ ns, n.fit) {role : ByteArray} (hr : role ∈ rolesS ns) (v : Value) (W : World) (hv : SlAt W W.heap.size v ns) :
    Calls Tryz.prog 139 #[v, .string role] W fun e w3 => ∃ u : MU, e = .returned (.agg #[u.sv, u.ev, .int .i64 u.m.start]) ∧ u.m = machOf p role ∧ MUOk w3 u ∧ (∀ b ∈ vblocks u.val, W.heap.size ≤ b ∧ b < w3.heap.size) ∧ Below W.heap.size W w3 := by
  have HC := hide (i_partMach hs hf hr v (W.alloc machZ) ((hv.carry (malloc1 W machZ)).up (by simp)))
  have HO : Hid (BoxL (W.alloc machZ) W.heap.size [.slice none 0 0, .slice none 0 0, .int .i64 0]) := hide (BoxL.new W [.slice none 0 0, .slice none 0 0, .int .i64 0] 59)
  have hfd1 := field_part
  have hfd2 := field_mach
  obtain ⟨ao, cap, rfl, -⟩ := hv
  clear hs hf hr
  go_enter Tryz.func139, Tryz.ntmps139
  go_wp2_with (first
    | (go_at_call 183; refine (HM.out _ (Below.refl _ _)).mono ?_; rintro e w3 ⟨u3, rfl, hum3, huo3, hub3, hb3⟩; have hsh := huo3.shape; have HU := hide (And.intro hum3 (And.intro huo3 hub3)); have HB3 := hide hb3; have HO3 := hide (HO2.out.keep (below_apart hb3) (by simp)); have b0 := HO3.out.cell 0 _ rfl; have b1 := HO3.out.cell 1 _ rfl; have b2 := HO3.out.cell 2 _ rfl; have bz := HO3.out.fz; obtain ⟨sv, ev, m⟩ := u3; dsimp only at hsh; obtain ⟨⟨ps, cs, rfl⟩, ⟨pe, ce, rfl⟩⟩ := hsh; clear hum3 huo3 hub3 hb3)
    | (go_at_call 37; refine Calls.mono HC.out ?_; rintro e w2 ⟨q, rfl, ⟨qa, qn, qc, rfl⟩, hb2, hm2⟩; have HB2 := hide hb2; have HO2 := hide (HO.out.keep (below_apart hb2) (by simp)); have HM := hide hm2; clear hb2 hm2))
  refine bodyPost_ret (v := .agg #[.slice ps m.states.length cs, .slice pe m.edges.length ce, .int .i64 m.start]) (by simp [results, Tryz.results139, go_sem, b0, b1, b2]) rfl ?_
  have z2 := HB2.out.size
  have z3 := HB3.out.size
  have hlt := HO2.out.lt
  have ha := set3_ap w3 W.heap.size (.slice ps m.states.length cs) (.slice pe m.edges.length ce) (.int .i64 m.start)
  have hb : Below W.heap.size W w3 := ((malloc1 W machZ).trans (HB2.out.mono (by simp))).trans (HB3.out.mono (by omega))
  refine ⟨⟨.slice ps m.states.length cs, .slice pe m.edges.length ce, m⟩, rfl, HU.out.1, HU.out.2.1.keep ha (fun b hb hm => ?_), fun b hb => ⟨by have := (HU.out.2.2 b hb).1; omega, Nat.lt_of_lt_of_le (HU.out.2.2 b hb).2 ha.size⟩, hb.trans (ha.below hb.size (fun b hm => by simp at hm; omega))⟩
  have := (HU.out.2.2 b hb).1
  simp at hm
  omega
end Go.Proofs.YtaaeledleldllaaGreat
namespace Go.Proofs.YtaaeledleldllaaGreat
open Go.RowKit
attribute [local go_sem] Oper.semAt_some

theorem texts_keep {w w' : World} {v : Value} {ls : List ByteArray} {l : List Nat} (h : TextsAt w v ls) (ha : Apart w w' l) (hd : ∀ b ∈ vblocks v, b ∉ l) : TextsAt w' v ls := by
  obtain ⟨ao, cap, rfl, h2, h3, h4⟩ := h
  refine ⟨ao, cap, rfl, h2, h3, fun hne => ?_⟩
  obtain ⟨b, o, rfl, hr⟩ := h4 hne
  exact ⟨b, o, rfl, fun i hi => ha.cell' (hr i hi) (hd b (by simp [vblocks, cellBlocks]))⟩
set_option maxRecDepth 100000 in
set_option maxHeartbeats 4000000 in
theorem parties_gives {ns : List Nd} {p : Pn 10} (hs : SPlan ns p) (hf : ∀ n ∈ ns, n.fit) (pb : Nat) (ao : Option Addr) (cap : Nat) :
    GivesN Tryz.prog 138 #[.pointer (some ⟨pb, 0, none⟩)] (rolesS ns).length (PtY p (rolesS ns)) (fun W => W.cell? ⟨pb, 0, none⟩ = some (.slice ao ns.length cap) ∧ SlAt W W.heap.size (.slice ao ns.length cap) ns) := by
  intro l J X W hst hK hY h0
  have HF := hide hf
  have HRV : Hid (rolesV ns = rolesS ns) := hide (by rw [rolesV, hs.right]; rfl)
  have HL4 := hide (right_roles hs.right)
  have HPM : Hid (∀ role, role ∈ rolesS ns → ∀ W, SlAt W W.heap.size (.slice ao ns.length cap) ns → Calls Tryz.prog 139 #[.slice ao ns.length cap, .string role] W fun e w3 => ∃ u : MU, e = .returned (.agg #[u.sv, u.ev, .int .i64 u.m.start]) ∧ u.m = machOf p role ∧ MUOk w3 u ∧ (∀ b ∈ vblocks u.val, W.heap.size ≤ b ∧ b < w3.heap.size) ∧ Below W.heap.size W w3) := hide (fun role hr W hv => i_machineIn hs hf hr _ W hv)
  have HST := hide hst
  have HK := hide hK
  have HY := hide hY
  have HJ0 := hide h0
  obtain ⟨rs, hrs⟩ : ∃ rs, rolesS ns = rs := ⟨_, rfl⟩
  rw [hrs] at HRV HL4 HPM HY ⊢
  have kc := (hK 0 X W h0).1.1
  have HSL := hide (hK 0 X W h0).1.2
  clear hst hK hY h0 hrs
  refine callsIn_of_wp Tryz.func138 rfl trivial ?_
  simp only [Tryz.ntmps138, List.size_toArray, List.length_cons, List.length_nil, Nat.reduceAdd, Nat.reduceSub, Array.replicate_succ, Array.replicate_zero, List.push_toArray, List.append_toArray, List.nil_append, List.cons_append]
  gi_wp2_with (refine ⟨trivial, rfl, ?_⟩; gi_at_call 36; refine (callsIn_wide.2 (roles_of ns _ _ HF.out HSL.out)).mono ?_; rintro e w1 ⟨v1, rfl, ho1, hb1⟩; rw [HRV.out] at ho1; have HT1 := hide (texts_own ho1 (by have := HL4.out; omega)); obtain ⟨p1, c1, rfl⟩ := owns_shape ho1; have HO1 := hide ho1; have HB1 := hide hb1; clear ho1 hb1)
  have hl4 : rs.length ≤ 4 := HL4.out
  gi_loopw [8] (fun i wr => ∃ (k : Nat) (Y : List Nat), k ≤ rs.length ∧ i = .int .i64 k ∧ J k Y wr ∧ TextsAt wr (.slice p1 rs.length c1) rs ∧ ∀ b ∈ vblocks (.slice p1 rs.length c1), b ∉ Y ∧ b < wr.heap.size) (fun i _ => rs.length - (intOf i).toNat)
  case atStart =>
    exact ⟨0, X, Nat.zero_le _, rfl, HST.out _ _ _ _ HJ0.out HB1.out, HT1.out, fun b hb => ⟨fun hm => by have := (HK.out 0 X W HJ0.out).2 b hm; have := (owns_fresh HO1.out).lo b hb; omega, (owns_fresh HO1.out).hi b hb⟩⟩
  case round =>
    obtain ⟨k, Y, hk, rfl, hJ, hT, hd⟩ := hrel
    have HJ := hide hJ
    have HT := hide hT
    have HD := hide hd
    obtain ⟨⟨kr, hslr⟩, -⟩ := HK.out k Y wr hJ
    have HSR := hide hslr
    clear hJ hT hd hslr
    by_cases hlt : k < rs.length
    · obtain ⟨ta, tc, et, htc, -, htr⟩ := HT.out
      injection et with t1 t2 t3
      obtain ⟨tb, to, hta, hcell⟩ := htr (by intro h; rw [h] at hlt; simp at hlt)
      rw [hta] at t1
      subst t1
      have c0 := hcell k hlt
      have HC := hide (HPM.out rs[k] (List.getElem_mem hlt) wr HSR.out)
      have hget : rs[k]? = some rs[k] := List.getElem?_eq_getElem hlt
      obtain ⟨x1, hx1⟩ : ∃ x1, x1 = rs[k] := ⟨_, rfl⟩
      rw [← hx1] at c0 HC hget
      have HGET := hide hget
      clear hx1 hcell htr hta t2 t3 htc hget
      gi_wp2_with (first
        | (refine ⟨trivial, rfl, ?_⟩; gi_at_call 139; refine (callsIn_wide.2 HC.out).mono ?_; rintro e w3 ⟨u3, rfl, hum3, huo3, hub3, hb3⟩; have hsh := huo3.shape; have HU := hide (And.intro hum3 (And.intro huo3 hub3)); have HB3 := hide hb3; obtain ⟨sv, ev, m⟩ := u3; dsimp only at hsh; obtain ⟨⟨ps, cs, rfl⟩, ⟨pe, ce, rfl⟩⟩ := hsh; obtain ⟨fn, tmps, assign, body, hy, hR⟩ := HY.out k #[.agg #[.string x1, .slice ps m.states.length cs, .slice pe m.edges.length ce, .int .i64 m.start]] Y wr w3 hlt HJ.out HB3.out ⟨⟨x1, ⟨.slice ps m.states.length cs, .slice pe m.edges.length ce, m⟩⟩, rfl, HGET.out, HU.out.1, HU.out.2.1, fun b hb => HU.out.2.2 b hb⟩; have HR := hide hR; clear hum3 huo3 hub3 hb3 hR))
      refine ⟨rfl, HR.out.mono ?_⟩
      rintro e W4 ⟨rfl, Y', hJ', hap, hx⟩
      have HJ' := hide hJ'
      have HAP := hide hap
      have HXX := hide hx
      clear hJ' hap hx
      gi_wp2
      go_roundw
      case rel =>
        have hA : Apart wr W4 Y := by
          have := (below_apart HB3.out).trans HAP.out
          rwa [List.nil_append] at this
        refine ⟨k + 1, Y', hlt, by go_num, HJ'.out, texts_keep HT.out hA (fun b hb => (HD.out b hb).1), fun b hb => ⟨fun hm => ?_, Nat.lt_of_lt_of_le (HD.out b hb).2 hA.size⟩⟩
        rcases HXX.out b hm with h | h
        · exact (HD.out b hb).1 h
        · have h1 := (HD.out b hb).2
          have h3 := HB3.out.size
          omega
      case measure => simp [intOf]; omega
    · gi_wp2
      go_end0
      have hkk : k = rs.length := by omega
      subst hkk
      exact ⟨⟨_, rfl⟩, Y, HJ.out⟩
end Go.Proofs.YtaaeledleldllaaGreat
