import Derived.Test.YtaaeledleldllaaGreatQB51
import Derived.Test.YtaaeledleldllaaGreatQN01
import Derived.Test.YtaaeledleldllaaGreatQB19
import Derived.Test.YtaaeledleldllaaGreatQB34
namespace Go.Proofs.YtaaeledleldllaaGreat
open Go.RowKit
set_option linter.unusedSimpArgs false
attribute [local go_sem] Oper.semAt_some

theorem wpListIn_append_own_at {F : Fence} {n : Nat} {P : Program} (w : World) {ops : Array Oper} {rest : List Oper} {o : Oper} {a : Act} {Q : Exit → Act → World → Prop}
    (hg : o.guard = none) (s x : Operand) (t : TypeId) (hop : o.op = Op.call { callee := Callee.builtin Builtin.append, args := #[s, x], argTypes := #[t, t] })
    (base : Nat) (e : TypeId) (i : TypeInfo) (z : Value) (size bytes : Nat) (h1 : P.underlying t = some (.slice e)) (h2 : P.info? e = some i) (h3 : i.zero = some z) (h4 : i.size = size) (h5 : i.bytes = bytes) (h6 : z.cells.size = size) (h7 : 0 < size)
    (v : Value) (k : Nat) (xs : List Value) (hs : a.eval s = v) (hown : w.ownsRow base e size v k xs) (ad : Addr) (m c : Nat) (news : List Value) (hx : a.eval x = .slice (some ad) m c) (hn : news.length = m * size)
    (hc : ∀ j u, news[j]? = some u → w.cell? (ad.add j) = some u) (h1c : ∀ u ∈ news, u.oneCell' = true) (b1 : k + m ≤ maxLen) (b2 : (k + m) * bytes ≤ 140737488355328) (b3 : base ≤ w.heap.size)
    (hK : ∀ v' w', w'.ownsRow base e size v' (k + m) (xs ++ news) → w.grownBy w' v.ownBlock → (v'.ownBlock = v.ownBlock ∨ v'.ownBlock = some w.heap.size) → wpListIn F n P ops Q rest (a.put o.dst v') w') :
    wpListIn F n P ops Q (o :: rest) a w := by
  refine wpListIn_plain hg fun K hK' => ?_
  obtain ⟨v', w', hrun, r1, r2, _, r3⟩ := run_append_own_at (P := P) w base t o.type e i z size bytes h1 h2 h3 h4 h5 h6 h7 v k xs hown ad m c news hn hc h1c b1 b2 b3
  unfold Oper.wpIn
  refine ⟨?_, ?_⟩
  · simp [Oper.about, hop, resolve, Target.leads, Sem.run_pure]
  · rw [Oper.semAt_plain F _ _ (by rw [hop]; intro c hc'; cases hc')]
    simp [execOp, hop, resolve, invoke, builtin, hs, hx, hrun, Result.andThen]
    exact hK' _ _ (hK v' w' r1 r2 r3)
structure BwI (W0 : World) (p : Pn 10) (rs : List ByteArray) (cb : Nat) (pv : Value) (k : Nat) (X : List Nat) (W : World) : Prop where
  at_ : ∃ sv qv vs, X = cb :: (vblocks qv ++ vblocks sv) ∧ W.ownsRow W0.heap.size 139 4 qv k vs ∧ BoxL W cb [pv, sv, .slice none 0 0, .int .i64 0, qv, .slice none 0 0] ∧ NuOwn W W0.heap.size sv (startsOf p (rs.take k)) ∧ (∀ b ∈ vblocks qv, b ∉ vblocks sv) ∧ Apart W0 W [cb]
theorem bwI_below {W0 : World} {p : Pn 10} {rs : List ByteArray} {cb : Nat} {pv : Value} {k : Nat} {X : List Nat} {W1 W2 : World} (h : BwI W0 p rs cb pv k X W1) (hb : Below W1.heap.size W1 W2) : BwI W0 p rs cb pv k X W2 := by
  obtain ⟨sv, qv, vs, h1, h2, h3, h4, h5, h6⟩ := h.at_
  exact ⟨sv, qv, vs, h1, owns_below h2 hb, h3.keep (below_apart hb) (by simp), owns_below h4 hb, h5, h6.then hb⟩
theorem bwI_put {W0 : World} {p : Pn 10} {rs : List ByteArray} {cb : Nat} {pv : Value} {k : Nat} {X : List Nat} {W W' : World} (h : BwI W0 p rs cb pv k X W) (hl : W0.heap.size + 1 ∉ X) (ha : Apart W W' [W0.heap.size + 1]) : BwI W0 p rs cb pv k X W' := by
  obtain ⟨sv, qv, vs, rfl, h2, h3, h4, h5, h6⟩ := h.at_
  simp only [List.mem_cons, List.mem_append, not_or] at hl
  refine ⟨sv, qv, vs, rfl, owns_keep h2 ha (fun b hb hm => by simp at hm; subst hm; exact hl.2.1 hb), h3.keep ha (by simp; omega), owns_keep h4 ha (fun b hb hm => by simp at hm; subst hm; exact hl.2.2 hb), h5, ⟨?_, ?_, ?_, ?_, fun b hb hn => ?_⟩⟩
  · exact ha.os.trans h6.os
  · exact ha.tape.trans h6.tape
  · exact ha.output.trans h6.output
  · exact Nat.le_trans h6.size ha.size
  · exact (ha.block b (Nat.lt_of_lt_of_le hb h6.size) (by simp; omega)).trans (h6.block b hb hn)
theorem grown_row {w w2 : World} {base e size n n2 : Nat} {v v' : Value} {vs vs2 : List Value} (h : w.ownsRow base e size v n vs) (o : Obj) (hown : w2.ownsRow base e size v' n2 vs2) (hg : (w.alloc o).grownBy w2 v.ownBlock) (hat : v'.ownBlock = v.ownBlock ∨ v'.ownBlock = some (w.alloc o).heap.size) :
    Apart w w2 (vblocks v) ∧ ∀ b ∈ vblocks v', b ∈ vblocks v ∨ w.heap.size ≤ b := by
  obtain ⟨p, c, hv⟩ := owns_shape h
  obtain ⟨p', c', hv'⟩ := owns_shape hown
  refine ⟨?_, fun b hm => ?_⟩
  · rw [hv] at hg ⊢
    have := (below_apart (malloc1 w o)).trans (grownBy_apart hg)
    rwa [List.nil_append] at this
  · have hm' := (own_blocks hv').2 hm
    rcases hat with e | e
    · rw [e] at hm'
      exact .inl ((own_blocks hv).1 hm')
    · rw [e] at hm'
      simp at hm'
      exact .inr (by omega)
theorem bwI_push {W0 : World} {p : Pn 10} {rs : List ByteArray} {cb : Nat} {pv sv qv : Value} {k : Nat} {vs : List Value} {Wa W1 W2 W3 W4 : World} {x : PU} (h2 : Wa.ownsRow W0.heap.size 139 4 qv k vs) (h3 : BoxL Wa cb [pv, sv, .slice none 0 0, .int .i64 0, qv, .slice none 0 0]) (h4 : NuOwn Wa W0.heap.size sv (startsOf p (rs.take k))) (h5 : ∀ b ∈ vblocks qv, b ∉ vblocks sv) (h6 : Apart W0 Wa [cb]) (hcb : cb < W0.heap.size)
    (hget : rs[k]? = some x.role) (hm : x.u.m = machOf p x.role) (o : Obj) (q' : Value) (vs1 : List Value)
    (hown : W1.ownsRow W0.heap.size 139 4 q' (k + 1) vs1) (hg : (Wa.alloc o).grownBy W1 qv.ownBlock) (hat : q'.ownBlock = qv.ownBlock ∨ q'.ownBlock = some (Wa.alloc o).heap.size) (hW2 : W2 = W1.setCell ⟨cb, 4, none⟩ q')
    (o2 : Obj) (s' : Value) (hown3 : W3.ownsRow W0.heap.size 2 1 s' ((startsOf p (rs.take k)).length + 1) ((startsOf p (rs.take k)).map (fun z => Value.int .i64 z) ++ [.int .i64 x.u.m.start])) (hg3 : (W2.alloc o2).grownBy W3 sv.ownBlock) (hat3 : s'.ownBlock = sv.ownBlock ∨ s'.ownBlock = some (W2.alloc o2).heap.size) (hW4 : W4 = W3.setCell ⟨cb, 1, none⟩ s') :
    Apart Wa W4 (cb :: (vblocks qv ++ vblocks sv)) ∧ ∃ X', BwI W0 p rs cb pv (k + 1) X' W4 ∧ ∀ b ∈ X', b ∈ cb :: (vblocks qv ++ vblocks sv) ∨ Wa.heap.size ≤ b := by
  obtain ⟨a1, s1⟩ := grown_row h2 o hown hg hat
  have lq := owns_fresh h2
  have ls := owns_fresh h4
  have a2 : Apart W1 W2 [cb] := by rw [hW2]; exact setCell_apart _ _ _ _
  have a12 := a1.trans a2
  have hcq : cb ∉ vblocks qv := fun hm' => by have := lq.lo cb hm'; omega
  have hcs : cb ∉ vblocks sv := fun hm' => by have := ls.lo cb hm'; omega
  have h4' : NuOwn W2 W0.heap.size sv (startsOf p (rs.take k)) := owns_keep h4 a12 (fun b hb hm' => by
    rcases List.mem_append.1 hm' with h | h
    · exact h5 b h hb
    · simp at h; subst h; exact hcs hb)
  obtain ⟨a3, s3⟩ := grown_row h4' o2 hown3 hg3 hat3
  have a4 : Apart W3 W4 [cb] := by rw [hW4]; exact setCell_apart _ _ _ _
  have lq' := owns_fresh hown
  have ls' := owns_fresh hown3
  have hcq' : cb ∉ vblocks q' := fun hm' => by have := lq'.lo cb hm'; omega
  have hcs' : cb ∉ vblocks s' := fun hm' => by have := ls'.lo cb hm'; omega
  have hA := (a12.trans (a3.trans a4)).sub (l' := cb :: (vblocks qv ++ vblocks sv)) (fun b hb => by
    simp only [List.mem_append, List.mem_cons, List.not_mem_nil, or_false] at hb ⊢
    rcases hb with (h | h) | (h | h)
    · exact .inr (.inl h)
    · exact .inl h
    · exact .inr (.inr h)
    · exact .inl h)
  have z12 : Wa.heap.size ≤ W1.heap.size := a1.size
  have hqs : ∀ b ∈ vblocks q', b ∉ vblocks sv := fun b hb hm' => by
    rcases s1 b hb with h | h
    · exact h5 b h hm'
    · have := ls.hi b hm'; omega
  have hq's' : ∀ b ∈ vblocks q', b ∉ vblocks s' := fun b hb hm' => by
    rcases s3 b hm' with h | h
    · exact hqs b hb h
    · have := lq'.hi b hb; have := a2.size; omega
  have hk : k < rs.length := (List.getElem?_eq_some_iff.1 hget).1
  have hge : rs[k] = x.role := (List.getElem?_eq_some_iff.1 hget).2
  have hst : startsOf p (rs.take (k + 1)) = startsOf p (rs.take k) ++ [x.u.m.start] := by
    unfold startsOf
    rw [List.take_succ_eq_append_getElem hk, List.map_append, hge, hm]
    rfl
  have hbox : BoxL W4 cb [pv, s', .slice none 0 0, .int .i64 0, q', .slice none 0 0] := by
    rw [hW4]
    have b2 : BoxL W2 cb [pv, sv, .slice none 0 0, .int .i64 0, q', .slice none 0 0] := by rw [hW2]; exact (h3.keep a1 hcq).set 4 (by simp) q'
    exact (b2.keep a3 hcs).set 1 (by simp) s'
  refine ⟨hA, cb :: (vblocks q' ++ vblocks s'), ⟨s', q', vs1, rfl, ?_, hbox, ?_, hq's', ?_⟩, fun b hb => ?_⟩
  · refine owns_keep hown (a2.trans (a3.trans a4)) (fun b hb hm' => ?_)
    simp only [List.mem_append, List.mem_cons, List.not_mem_nil, or_false] at hm'
    rcases hm' with h | h | h
    · subst h; exact hcq' hb
    · exact hqs b hb h
    · subst h; exact hcq' hb
  · have : NuOwn W3 W0.heap.size s' (startsOf p (rs.take (k + 1))) := by
      unfold NuOwn
      rw [hst, List.length_append, List.map_append]
      exact hown3
    exact owns_keep this a4 (fun b hb hm' => by simp at hm'; subst hm'; exact hcs' hb)
  · have hall := h6.trans hA
    refine ⟨hall.os, hall.tape, hall.output, hall.size, fun b hb hn => hall.block b hb (fun hm' => ?_)⟩
    simp only [List.mem_append, List.mem_cons, List.not_mem_nil, or_false] at hm' hn
    rcases hm' with h | h | h | h
    · exact hn h
    · exact hn h
    · have := lq.lo b h; omega
    · have := ls.lo b h; omega
  · simp only [List.mem_append, List.mem_cons] at hb ⊢
    rcases hb with h | h | h
    · exact .inl (.inl h)
    · rcases s1 b h with h | h
      · exact .inl (.inr (.inl h))
      · exact .inr h
    · rcases s3 b h with h | h
      · exact .inl (.inr (.inr h))
      · exact .inr (by have := a2.size; omega)
end Go.Proofs.YtaaeledleldllaaGreat
namespace Go.Proofs.YtaaeledleldllaaGreat
open Go.RowKit
set_option linter.unusedSimpArgs false
attribute [local go_sem] Oper.semAt_some

theorem plan_ne2 {ns : List Nd} {p : Pn 10} (h : SPlan ns p) : ns ≠ [] := by
  intro e
  have h1 := h.right
  rw [e] at h1
  simp [rightB, ahead] at h1
theorem below_put2 {B : Nat} {w w' : World} {l : Nat} {o : Obj} (h : Below B w w') (hl : B ≤ l) : Below B w (w'.putObj l o) :=
  ⟨h.os, h.tape, h.output, by have := h.size; simpa using this, fun b hb => (World.putObj_heap_other (by omega)).trans (h.block b hb)⟩
set_option maxRecDepth 100000 in
set_option maxHeartbeats 4000000 in
theorem i_beginning {ns : List Nd} {p : Pn 10} (hs : SPlan ns p) (hf : ∀ n ∈ ns, n.fit) (v : Value) (w : World) (hv : SlAt w w.heap.size v ns) :
    Calls Tryz.prog 53 #[v] w fun e w' => ∃ pv sv qv, e = .returned (.agg #[pv, sv, .slice none 0 0, .int .i64 0, qv, .slice none 0 0]) ∧ (∃ a b c, qv = .slice a b c) ∧ NdOwn w' w.heap.size pv ns ∧ NuOwn w' w.heap.size sv (startsOf p (rolesS ns)) ∧ (∀ b ∈ vblocks pv, b ∉ vblocks sv) ∧ Below w.heap.size w w' := by
  have HV := hide hv
  have HS := hide hs
  have HF := hide hf
  have h40 := hs.len
  have HNE := hide (plan_ne2 hs)
  have HL4 := hide (right_roles hs.right)
  obtain ⟨ao, cap, rfl, -⟩ := hv
  obtain ⟨rs, hrs⟩ : ∃ rs, rolesS ns = rs := ⟨_, rfl⟩
  have HRS := hide hrs
  rw [hrs] at HL4 ⊢
  clear hs hf hrs
  refine (callsIn_wide (n := 0)).1 (callsIn_of_wp_marks Tryz.func53 rfl trivial (wpIn_wide.2 ?_))
  simp only [Tryz.ntmps53, List.size_toArray, List.length_cons, List.length_nil, Nat.reduceAdd, Nat.reduceSub, Array.replicate_succ, Array.replicate_zero, List.push_toArray, List.append_toArray, List.nil_append, List.cons_append]
  go_wp2_with (first
    | (go_at_call 88; refine (parties_of _ _ ⟨_, _, _, rfl⟩).mono ?_; rintro e w5 ⟨rfl, rfl⟩)
    | (go_at_call 92; refine (own_plan ns _ _ (by omega) HNE.out HF.out ((HV.out.carry (malloc1 _ _)).up (by simp))).mono ?_; rintro e w1 ⟨v1, rfl, ho1, hb1⟩; obtain ⟨pp, cp, rfl⟩ := owns_shape ho1; have HO := hide ho1; have HB1 := hide hb1; clear ho1 hb1))
  obtain ⟨W0, hW0⟩ : ∃ W0, W0 = (w1.alloc (.cells #[.slice pp ns.length cp, .slice none 0 0, .slice none 0 0, .int .i64 0, .slice none 0 0, .slice none 0 0] 96)).alloc (.cells #[.slice ao ns.length cap] 25) := ⟨_, rfl⟩
  rw [← hW0]
  have hz0 : W0.heap.size = w1.heap.size + 2 := by rw [hW0]; simp
  have HB10 : Hid (Below w1.heap.size w1 W0) := hide (by rw [hW0]; exact (malloc1 _ _).trans ((malloc1 _ _).mono (by simp)))
  have XR : BoxL W0 w.heap.size [.slice none 0 0, .slice none 0 0, .slice none 0 0, .int .i64 0, .slice none 0 0, .slice none 0 0] := ((BoxL.new w [.slice none 0 0, .slice none 0 0, .slice none 0 0, .int .i64 0, .slice none 0 0, .slice none 0 0] 96).keep (below_apart HB1.out) (by simp)).keep (below_apart HB10.out) (by simp)
  have XC : BoxL W0 w1.heap.size [.slice pp ns.length cp, .slice none 0 0, .slice none 0 0, .int .i64 0, .slice none 0 0, .slice none 0 0] := by rw [hW0]; exact (BoxL.new w1 [.slice pp ns.length cp, .slice none 0 0, .slice none 0 0, .int .i64 0, .slice none 0 0, .slice none 0 0] 96).keep (below_apart (malloc1 _ _)) (by simp)
  have XP : BoxL W0 (w1.heap.size + 1) [.slice ao ns.length cap] := by
    rw [hW0]
    have := BoxL.new (w1.alloc (.cells #[.slice pp ns.length cp, .slice none 0 0, .slice none 0 0, .int .i64 0, .slice none 0 0, .slice none 0 0] 96)) [.slice ao ns.length cap] 25
    simpa using this
  have HBW : Hid (Below w.heap.size w w1) := hide ((malloc1 _ _).trans (HB1.out.mono (by simp)))
  have HB0 : Hid (Below w.heap.size w W0) := hide (HBW.out.trans (HB10.out.mono HBW.out.size))
  have hwz : w.heap.size < w1.heap.size := by have := HB1.out.size; simp at this; omega
  have HXR := hide XR
  have HXC := hide XC
  have HXP := hide XP
  have HZ0 := hide hz0
  have HWZ := hide hwz
  clear hW0 XR XC XP hz0 hwz
  have HGV := hide (parties_gives HS.out HF.out (w1.heap.size + 1) ao cap)
  rw [HRS.out] at HGV
  have HLOW : Hid (∀ k X W, BwI W0 p rs w1.heap.size (.slice pp ns.length cp) k X W → Below w.heap.size w W) := hide (fun k X W h => by
    obtain ⟨sv, qv, vs, -, -, -, -, -, h6⟩ := h.at_
    exact HB0.out.trans (h6.below HB0.out.size (fun b hb => by simp at hb; have := HWZ.out; omega)))
  refine wpIn_wide.1 (wp_range (gf := 138) (lb := #[.pointer (some ⟨w1.heap.size + 1, 0, none⟩)]) rfl (enters_of Tryz.func138 (by kernel_rfl) rfl) HGV.out ?hps (BwI W0 p rs w1.heap.size (.slice pp ns.length cp)) ?hIb ?hIp ?hIK [w1.heap.size] ?h0 ?hround ?hdone)
  case hps =>
    rintro k args Wa Wb ⟨x, rfl, -⟩
    rfl
  case hIb => exact fun k X W1 W2 h hb => bwI_below h hb
  case hIp => exact fun k X W W' h _ h2 _ ha => bwI_put h h2 ha
  case hIK =>
    intro k X W h
    have hlo := HLOW.out k X W h
    obtain ⟨sv, qv, vs, rfl, h2, h3, h4, h5, h6⟩ := h.at_
    refine ⟨⟨(HXP.out.keep h6 (by simp)).cell 0 _ rfl, (HV.out.carry hlo).up hlo.size⟩, fun b hb => ?_⟩
    simp only [List.mem_cons, List.mem_append] at hb
    rcases hb with rfl | hb | hb
    · exact h3.lt
    · exact (owns_fresh h2).hi b hb
    · exact (owns_fresh h4).hi b hb
  case h0 => exact ⟨.slice none 0 0, .slice none 0 0, [], rfl, owns_nil _ _ _ _, HXC.out, owns_nil _ _ _ _, fun b hb => by simp [vblocks, cellBlocks] at hb, ⟨rfl, rfl, rfl, Nat.le_refl _, fun _ _ _ => rfl⟩⟩
  case hround =>
    rintro k args X Wa Wb hk hI hsz hx1 hx2 hab ⟨x, rfl, hget, hxm, hu, hub⟩
    have hsh := hu.shape
    have HXL : Hid (∀ b ∈ X, b < Wa.heap.size) := hide (fun b hb => by
      obtain ⟨sv, qv, vs, rfl, h2, h3, h4, h5, h6⟩ := hI.at_
      simp only [List.mem_cons, List.mem_append] at hb
      rcases hb with rfl | hb | hb
      · exact h3.lt
      · exact (owns_fresh h2).hi b hb
      · exact (owns_fresh h4).hi b hb)
    have HR := hide (And.intro hI (And.intro hget hxm))
    clear hI hget hxm hu hub
    obtain ⟨role, sv', ev', m⟩ := x
    replace hsh : (∃ ps cs, sv' = .slice ps m.states.length cs) ∧ ∃ pe ce, ev' = .slice pe m.edges.length ce := hsh
    obtain ⟨⟨xp, xc, rfl⟩, ⟨yp, yc, rfl⟩⟩ := hsh
    have HK := hide hk
    have HX1 := hide hx1
    have HX2 := hide hx2
    have HAB := hide hab
    have HSZ := hide hsz
    clear hk hx1 hx2 hab hsz
    unfold PU.val PU.cells MU.cells
    gi_wp2
    refine ⟨malloc1 _ _, fun W2 hap hsz2 => ?_⟩
    have HAP := hide hap
    have HS2' := hide hsz2
    clear hap hsz2
    have hI2 := bwI_put (bwI_below (bwI_below HR.out.1 HAB.out) (malloc1 Wb (.cells #[.string role, .slice xp m.states.length xc, .slice yp m.edges.length yc, .int .i64 m.start] 139))) HX2.out HAP.out
    obtain ⟨sv, qv, vs, rfl, g2, g3, g4, g5, g6⟩ := hI2.at_
    obtain ⟨pq, cq, rfl⟩ := owns_shape g2
    obtain ⟨ps, cs, rfl⟩ := owns_shape g4
    have hbp : BoxL W2 Wb.heap.size [.string role, .slice xp m.states.length xc, .slice yp m.edges.length yc, .int .i64 m.start] := (BoxL.new Wb [.string role, .slice xp m.states.length xc, .slice yp m.edges.length yc, .int .i64 m.start] 139).keep HAP.out (by have := HSZ.out; have := HAB.out.size; simp; omega)
    have c4 := g3.cell 4 _ rfl
    have f4 := g3.fz 4
    have p0 := hbp.cell 0 _ rfl
    have p1 := hbp.cell 1 _ rfl
    have p2 := hbp.cell 2 _ rfl
    have p3 := hbp.cell 3 _ rfl
    obtain ⟨i0, hi, hz0, hz1, hz2⟩ := info_parts Tryz.infoPt
    have HI := hide (And.intro hi (And.intro hz0 (And.intro hz1 hz2)))
    obtain ⟨i1, hi', hz0', hz1', hz2'⟩ := info_parts Tryz.infoI64
    have HI1 := hide (And.intro hi' (And.intro hz0' (And.intro hz1' hz2')))
    clear hi hz0 hz1 hz2 hi' hz0' hz1' hz2'
    have hk4 : k ≤ 4 := by have := HK.out; have := HL4.out; omega
    have HBP := hide hbp
    have HG := hide (And.intro g2 (And.intro g3 (And.intro g4 (And.intro g5 g6))))
    clear g2 g3 g4 g5 g6 hbp hI2
    have hLk : (startsOf p (rs.take k)).length ≤ 4 := by rw [starts_len (by have := HK.out; omega)]; exact hk4
    have HCB : Hid (w1.heap.size < W0.heap.size) := hide (by have := HZ0.out; omega)
    have HW2s : Hid (Wb.heap.size < W2.heap.size) := hide (by have h1 := HS2'.out; omega)
    have HQB : Hid (Wb.heap.size ∉ vblocks (.slice pq k cq)) := hide (fun hm => by have h1 := HXL.out _ (List.mem_cons_of_mem _ (List.mem_append.2 (.inl hm))); have h2 := HAB.out.size; omega)
    gi_wp2_with (first
      | (gi_at_builtin; refine wpListIn_append_own_at _ rfl (.tmp 20) (.tmp 24) 29 rfl W0.heap.size 2 i1 (.int .i64 0) 1 8 Tryz.underlying29 HI1.out.1 HI1.out.2.1 HI1.out.2.2.1 HI1.out.2.2.2 rfl (by decide) (.slice ps (startsOf p (rs.take k)).length cs) (startsOf p (rs.take k)).length ((startsOf p (rs.take k)).map fun z => .int .i64 z) rfl (owns_below HN7.out (malloc1 _ _)) ⟨w7.heap.size, 0, none⟩ 1 1 [.int .i64 m.start] rfl rfl (by have := cell_one_new (w7.setCell ⟨w1.heap.size, 4, none⟩ (.slice p7 (k + 1) q7)) (.int .i64 m.start) 2; simpa using this) (by simp [Value.oneCell']) (by unfold maxLen; omega) (by omega) (by have h1 := HS2'.out; have h2 := HAB.out.size; have h3 := HSZ.out; have h4 := HA7.out.size; simp at h1 ⊢; omega) ?_; intro v9 w9 hown9 hgr9 hat9; have HO9 := hide (And.intro hown9 (And.intro hgr9 hat9)); have A9 := (below_apart (malloc1 (w7.setCell ⟨w1.heap.size, 4, none⟩ (.slice p7 (k + 1) q7)) (.cells #[.int .i64 m.start] 2))).trans (grownBy_apart hgr9); have B9 := HB7.out.keep A9 (fun hm => by rw [List.nil_append] at hm; have := (owns_fresh HG.out.2.2.1).lo _ hm; have := HCB.out; omega); have c9 := B9.cell 1 _ rfl; have f9 := B9.fz 1; obtain ⟨p9, q9, rfl⟩ := owns_shape hown9; clear hown9 hgr9 hat9 A9 B9)
      | (gi_at_builtin; (fail_if_success (have := HO7)); refine wpListIn_append_own_at _ rfl (.tmp 13) (.tmp 15) 94 rfl W0.heap.size 139 i0 (.agg #[.string ByteArray.empty, .slice none 0 0, .slice none 0 0, .int .i64 0]) 4 72 Tryz.underlying94 HI.out.1 HI.out.2.1 HI.out.2.2.1 HI.out.2.2.2 rfl (by decide) (.slice pq k cq) k vs rfl (owns_below HG.out.1 (malloc1 _ _)) ⟨W2.heap.size, 0, none⟩ 1 1 [.string role, .slice xp m.states.length xc, .slice yp m.edges.length yc, .int .i64 m.start] rfl rfl (fun j u hj => new_row1m W2 _ _ j u hj) (by simp [Value.oneCell']) (by unfold maxLen; omega) (by omega) (by have h1 := HS2'.out; have h2 := HAB.out.size; have h3 := HSZ.out; simp at h1 ⊢; omega) ?_; intro v7 w7 hown7 hgr7 hat7; have HO7 := hide (And.intro hown7 (And.intro hgr7 hat7)); obtain ⟨p7, q7, rfl⟩ := owns_shape hown7; have A7 := (below_apart (malloc1 W2 (.cells #[.string role, .slice xp m.states.length xc, .slice yp m.edges.length yc, .int .i64 m.start] 139))).trans (grownBy_apart hgr7); have HA7 := hide A7; have n7 : w1.heap.size ∉ [] ++ vblocks (.slice pq k cq) := (fun hm => by rw [List.nil_append] at hm; have := (owns_fresh HG.out.1).lo _ hm; have := HCB.out; omega); have b7 := HG.out.2.1.keep A7 n7; have c7 := b7.cell 4 _ rfl; have c71 := b7.cell 1 _ rfl; have f7 := b7.fz 4; have p7' := (HBP.out.keep A7 (fun hm => HQB.out (by rwa [List.nil_append] at hm))).cell 3 _ rfl; have HB7 := hide (b7.set 4 (by simp) (.slice p7 (k + 1) q7)); have HN7 := hide (owns_keep (owns_keep HG.out.2.2.1 A7 (fun b hb hm => by rw [List.nil_append] at hm; exact HG.out.2.2.2.1 b hm hb)) (setCell_apart w7 w1.heap.size 4 (.slice p7 (k + 1) q7)) (fun b hb hm => by simp at hm; have := (owns_fresh HG.out.2.2.1).lo b hb; have := HCB.out; omega)); clear hown7 hgr7 hat7 A7 b7 n7))
    obtain ⟨g2, g3, g4, g5, g6⟩ := HG.out
    obtain ⟨hI, hget, hxm⟩ := HR.out
    obtain ⟨r1, X', r2, r3⟩ := bwI_push (x := ⟨role, ⟨.slice xp m.states.length xc, .slice yp m.edges.length yc, m⟩⟩) g2 g3 g4 g5 g6 HCB.out hget hxm _ _ _ HO7.out.1 HO7.out.2.1 HO7.out.2.2 rfl _ _ HO9.out.1 HO9.out.2.1 HO9.out.2.2 rfl
    refine ⟨r1, X', r2, fun b hb => ?_⟩
    rcases r3 b hb with h | h
    · exact .inl h
    · exact .inr (by have := HW2s.out; omega)
  case hdone =>
    intro X W hI hx1 hx2 hsz hD
    have hlo := HLOW.out _ _ _ hI
    obtain ⟨sv, qv, vs, rfl, h2, h3, h4, h5, h6⟩ := hI.at_
    obtain ⟨pq, cq, rfl⟩ := owns_shape h2
    obtain ⟨ps, cs, rfl⟩ := owns_shape h4
    rw [List.take_length] at h4 h3 h5 hx1
    have XR := HXR.out.keep h6 (by simp; have := HWZ.out; omega)
    have z0 := XR.cell 0 _ rfl
    have z1 := XR.cell 1 _ rfl
    have z2 := XR.cell 2 _ rfl
    have z3 := XR.cell 3 _ rfl
    have z4 := XR.cell 4 _ rfl
    have z5 := XR.cell 5 _ rfl
    have fz := XR.fz
    have c0 := h3.cell 0 _ rfl
    have c1 := h3.cell 1 _ rfl
    have c2 := h3.cell 2 _ rfl
    have c3 := h3.cell 3 _ rfl
    have c4 := h3.cell 4 _ rfl
    have c5 := h3.cell 5 _ rfl
    have HQ := hide (And.intro h2 (And.intro h3 (And.intro h4 (And.intro h5 (And.intro h6 (And.intro hx1 (And.intro hsz hlo)))))))
    have HD := hide hD
    have HXR' := hide XR
    clear hI hx1 hx2 hsz hD h2 h3 h4 h5 h6 hlo XR
    go_wp2_with fail
    have hA : Apart W ((((((W.setCell ⟨w.heap.size, 0, none⟩ (.slice pp ns.length cp)).setCell ⟨w.heap.size, 1, none⟩ (.slice ps (startsOf p rs).length cs)).setCell ⟨w.heap.size, 2, none⟩ (.slice none 0 0)).setCell ⟨w.heap.size, 3, none⟩ (.int .i64 0)).setCell ⟨w.heap.size, 4, none⟩ (.slice pq rs.length cq)).setCell ⟨w.heap.size, 5, none⟩ (.slice none 0 0)) [w.heap.size] := Apart.setCell (Apart.setCell (Apart.setCell (Apart.setCell (Apart.setCell (setCell_apart _ _ _ _) 1 _) 2 _) 3 _) 4 _) 5 _
    have hX := (((((HXR'.out.set 0 (by simp) (.slice pp ns.length cp)).set 1 (by simp) (.slice ps (startsOf p rs).length cs)).set 2 (by simp) (.slice none 0 0)).set 3 (by simp) (.int .i64 0)).set 4 (by simp) (.slice pq rs.length cq)).set 5 (by simp) (.slice none 0 0)
    obtain ⟨W5, hW5⟩ : ∃ W5, W5 = ((((((W.setCell ⟨w.heap.size, 0, none⟩ (.slice pp ns.length cp)).setCell ⟨w.heap.size, 1, none⟩ (.slice ps (startsOf p rs).length cs)).setCell ⟨w.heap.size, 2, none⟩ (.slice none 0 0)).setCell ⟨w.heap.size, 3, none⟩ (.int .i64 0)).setCell ⟨w.heap.size, 4, none⟩ (.slice pq rs.length cq)).setCell ⟨w.heap.size, 5, none⟩ (.slice none 0 0)) := ⟨_, rfl⟩
    rw [← hW5] at hA hX ⊢
    have hD5 : W5.heap[W0.heap.size]? = some (.deferred (some [])) := (hA.block _ (Array.getElem?_eq_some_iff.1 HD.out).1 (by simp; have := HWZ.out; have := HZ0.out; omega)).trans HD.out
    have hP := put_apart W5 W0.heap.size (.deferred none)
    have hX6 := hX.keep hP (by simp; have := HWZ.out; have := HZ0.out; omega)
    obtain ⟨h2, h3, h4, h5, h6, hx1, hsz, hlo⟩ := HQ.out
    refine ⟨by simp, .inl ⟨_, _, rfl, run_takeDeferred hD5, ?_⟩⟩
    obtain ⟨W6, hW6⟩ : ∃ W6, W6 = W5.putObj W0.heap.size (.deferred none) := ⟨_, rfl⟩
    rw [← hW6] at hP hX6 ⊢
    have k0 := hX6.cell 0 _ rfl
    have k1 := hX6.cell 1 _ rfl
    have k2 := hX6.cell 2 _ rfl
    have k3 := hX6.cell 3 _ rfl
    have k4 := hX6.cell 4 _ rfl
    have k5 := hX6.cell 5 _ rfl
    have hA6 := hA.trans hP
    have hz := HZ0.out
    have hwz := HWZ.out
    have ho1 := owns_fresh HO.out
    refine ⟨.agg #[.slice pp ns.length cp, .slice ps (startsOf p rs).length cs, .slice none 0 0, .int .i64 0, .slice pq rs.length cq, .slice none 0 0], ?_, _, _, _, rfl, ⟨_, _, _, rfl⟩, ?_, ?_, ?_, ?_⟩
    · clear hW6 hW5 hz
      unfold results
      go_simp
    · refine owns_down (owns_keep (owns_keep (owns_below HO.out HB10.out) h6 (fun b hb hm => ?_)) hA6 (fun b hb hm => ?_)) (by simp)
      · simp at hm; have := ho1.hi b hb; omega
      · have l1 := ho1.lo b hb; have l2 := ho1.hi b hb; simp at hm l1; omega
    · refine owns_down (owns_keep h4 hA6 (fun b hb hm => ?_)) (show w.heap.size ≤ W0.heap.size by omega)
      have l1 := (owns_fresh h4).lo b hb
      simp only [List.mem_append, List.mem_singleton] at hm
      rcases hm with e | e
      · omega
      · subst e; exact hx1 (List.mem_cons_of_mem _ (List.mem_append.2 (.inr hb)))
    · intro b hb hm
      have l1 := ho1.hi b hb
      have l2 := (owns_fresh h4).lo b hm
      omega
    · rw [hW6]
      exact below_put2 (hlo.trans (hA.below hlo.size (fun b hb => by simp at hb; omega))) (by omega)
end Go.Proofs.YtaaeledleldllaaGreat
namespace Go.Proofs.YtaaeledleldllaaGreat
open Go.RowKit

theorem ro_no {w W : World} {c : Int} (hb : Below w.heap.size w W) : RoAns w W (.returned (.agg #[.slice none 0 0, .slice none 0 0, .slice none 0 0, .int .i64 0, .slice none 0 0, .int .i64 c])) [] [] c :=
  ⟨⟨_, _, rfl, owns_nil _ _ _ _, owns_nil _ _ _ _, fun b hb => by simp [vblocks, cellBlocks] at hb⟩, hb⟩
def set6 (w : World) (B : Nat) (v0 v1 v2 v3 v4 v5 : Value) : World := ((((((w.setCell ⟨B, 0, none⟩ v0).setCell ⟨B, 1, none⟩ v1).setCell ⟨B, 2, none⟩ v2).setCell ⟨B, 3, none⟩ v3).setCell ⟨B, 4, none⟩ v4).setCell ⟨B, 5, none⟩ v5)
theorem set6_apart (w : World) (B : Nat) (v0 v1 v2 v3 v4 v5 : Value) : Apart w (set6 w B v0 v1 v2 v3 v4 v5) [B] := Apart.setCell (Apart.setCell (Apart.setCell (Apart.setCell (Apart.setCell (setCell_apart _ _ _ _) 1 _) 2 _) 3 _) 4 _) 5 _
theorem set6_box {w : World} {B : Nat} {a0 a1 a2 a3 a4 a5 : Value} (h : BoxL w B [a0, a1, a2, a3, a4, a5]) (v0 v1 v2 v3 v4 v5 : Value) : BoxL (set6 w B v0 v1 v2 v3 v4 v5) B [v0, v1, v2, v3, v4, v5] :=
  (((((h.set 0 (by simp) v0).set 1 (by simp) v1).set 2 (by simp) v2).set 3 (by simp) v3).set 4 (by simp) v4).set 5 (by simp) v5
def roZ : List Value := [.slice none 0 0, .slice none 0 0, .slice none 0 0, .int .i64 0, .slice none 0 0, .int .i64 0]
set_option maxRecDepth 100000 in
set_option maxHeartbeats 2000000 in
theorem i_runNew (ns : List Nd) (T : List Nd) (Z : List Int) (C : Int) (h : NwIs ns T Z C) (v : Value) (w : World) (fit : ∀ n ∈ ns, n.fit) (hv : SlAt w w.heap.size v ns) :
    Calls Tryz.prog 19 #[v] w fun e w' => RoAns w w' e T Z C := by
  have HV := hide hv
  have HF := hide fit
  have hl : ns.length ≤ 4294967296 := by obtain ⟨_, _, _, _, h3, _⟩ := hv; exact h3.2
  obtain ⟨ao, cap, rfl, -⟩ := hv
  clear fit
  have HX0 := hide (BoxL.new w roZ 43)
  unfold roZ at HX0
  rcases h with ⟨h1, rfl, rfl, rfl⟩ | ⟨h1, h2, rfl, rfl, rfl⟩ | ⟨h1, h2, h3, rfl, rfl, rfl⟩ | ⟨h1, h2, h3, hT, rfl, p, h4, rfl⟩
  · go_enter Tryz.func19, Tryz.ntmps19
    go_wp2_with fail
    refine bodyPost_ret_by (v := .agg #[.slice none 0 0, .slice none 0 0, .slice none 0 0, .int .i64 0, .slice none 0 0, .int .i64 2]) ?_ rfl (ro_no (malloc1 _ _))
    unfold results
    go_simp
  · have HR := hide h2
    clear h2
    go_enter Tryz.func19, Tryz.ntmps19
    go_wp2_with (go_at_call 35; refine (plan_right ns _ _ HF.out ((HV.out.carry (malloc1 _ _)).up (by simp))).mono ?_; rw [HR.out]; rintro e w1 ⟨rfl, hb1⟩; have HB1 := hide ((malloc1 w (.cells #[.slice none 0 0, .slice none 0 0, .slice none 0 0, .int .i64 0, .slice none 0 0, .int .i64 0] 43)).trans (hb1.mono (by simp))); have HX1 := hide (HX0.out.keep (below_apart hb1) (by simp)); have z0 := HX1.out.cell 0 _ rfl; have z1 := HX1.out.cell 1 _ rfl; have z2 := HX1.out.cell 2 _ rfl; have z3 := HX1.out.cell 3 _ rfl; have z4 := HX1.out.cell 4 _ rfl; have z5 := HX1.out.cell 5 _ rfl; have fz := HX1.out.fz; clear hb1)
    have hX := set6_box HX1.out (.slice none 0 0) (.slice none 0 0) (.slice none 0 0) (.int .i64 0) (.slice none 0 0) (.int .i64 1)
    have hA := set6_apart w1 w.heap.size (.slice none 0 0) (.slice none 0 0) (.slice none 0 0) (.int .i64 0) (.slice none 0 0) (.int .i64 1)
    obtain ⟨W, hW⟩ : ∃ W, W = set6 w1 w.heap.size (.slice none 0 0) (.slice none 0 0) (.slice none 0 0) (.int .i64 0) (.slice none 0 0) (.int .i64 1) := ⟨_, rfl⟩
    rw [← hW] at hX hA
    have hW' := hW
    unfold set6 at hW'
    rw [← hW']
    clear hW hW'
    have k0 := hX.cell 0 _ rfl
    have k1 := hX.cell 1 _ rfl
    have k2 := hX.cell 2 _ rfl
    have k3 := hX.cell 3 _ rfl
    have k4 := hX.cell 4 _ rfl
    have k5 := hX.cell 5 _ rfl
    refine bodyPost_ret_by (v := .agg #[.slice none 0 0, .slice none 0 0, .slice none 0 0, .int .i64 0, .slice none 0 0, .int .i64 1]) ?_ rfl (ro_no (HB1.out.trans (hA.below HB1.out.size (by simp))))
    unfold results
    go_simp
  · have HR := hide h2
    have HSN := hide h3
    clear h2 h3
    go_enter Tryz.func19, Tryz.ntmps19
    go_wp2_with (first
      | (go_at_call 11; refine (i_sound ns _ HSN.out _ _ HF.out ((HV.out.carry HB1.out).up HB1.out.size)).mono ?_; rintro e w2 ⟨rfl, hb2⟩; have HB2 := hide (HB1.out.trans (hb2.mono HB1.out.size)); have HX2 := hide (HX1.out.keep (below_apart hb2) (by simp)); have z0 := HX2.out.cell 0 _ rfl; have z1 := HX2.out.cell 1 _ rfl; have z2 := HX2.out.cell 2 _ rfl; have z3 := HX2.out.cell 3 _ rfl; have z4 := HX2.out.cell 4 _ rfl; have z5 := HX2.out.cell 5 _ rfl; have fz := HX2.out.fz; clear hb2)
      | (go_at_call 35; refine (plan_right ns _ _ HF.out ((HV.out.carry (malloc1 _ _)).up (by simp))).mono ?_; rw [HR.out]; rintro e w1 ⟨rfl, hb1⟩; have HB1 := hide ((malloc1 w (.cells #[.slice none 0 0, .slice none 0 0, .slice none 0 0, .int .i64 0, .slice none 0 0, .int .i64 0] 43)).trans (hb1.mono (by simp))); have HX1 := hide (HX0.out.keep (below_apart hb1) (by simp));  clear hb1))
    have hX := set6_box HX2.out (.slice none 0 0) (.slice none 0 0) (.slice none 0 0) (.int .i64 0) (.slice none 0 0) (.int .i64 11)
    have hA := set6_apart w2 w.heap.size (.slice none 0 0) (.slice none 0 0) (.slice none 0 0) (.int .i64 0) (.slice none 0 0) (.int .i64 11)
    obtain ⟨W, hW⟩ : ∃ W, W = set6 w2 w.heap.size (.slice none 0 0) (.slice none 0 0) (.slice none 0 0) (.int .i64 0) (.slice none 0 0) (.int .i64 11) := ⟨_, rfl⟩
    rw [← hW] at hX hA
    have hW' := hW
    unfold set6 at hW'
    rw [← hW']
    clear hW hW'
    have k0 := hX.cell 0 _ rfl
    have k1 := hX.cell 1 _ rfl
    have k2 := hX.cell 2 _ rfl
    have k3 := hX.cell 3 _ rfl
    have k4 := hX.cell 4 _ rfl
    have k5 := hX.cell 5 _ rfl
    refine bodyPost_ret_by (v := .agg #[.slice none 0 0, .slice none 0 0, .slice none 0 0, .int .i64 0, .slice none 0 0, .int .i64 11]) ?_ rfl (ro_no (HB2.out.trans (hA.below HB2.out.size (by simp))))
    unfold results
    go_simp
  · have HR := hide h2
    have HSN := hide h3
    have HSP := hide h4
    replace hT := hT.symm
    subst hT
    have hfd : ∀ (a : Option Addr) (b c : Nat) (a' : Option Addr) (b' c' : Nat) (a'' : Option Addr) (b'' c'' : Nat) (W : World), (Instr.field 96 (.agg #[.slice a b c, .slice a' b' c', .slice none 0 0, .int .i64 0, .slice a'' b'' c'', .slice none 0 0]) 0).run Tryz.prog W = .ok (.agg #[.slice a b c, .slice a' b' c', .slice none 0 0, .int .i64 0]) W := fun _ _ _ _ _ _ _ _ _ W => by kernel_rfl
    clear h2 h3 h4
    go_enter Tryz.func19, Tryz.ntmps19
    go_wp2_with (first
      | (go_at_call 53; refine (i_beginning HSP.out HF.out _ _ ((HV.out.carry HB2.out).up HB2.out.size)).mono ?_; rintro e w3 ⟨pv, sv, qv, rfl, ⟨qa, qb, qc, rfl⟩, ho1, ho2, hd3, hb3⟩; obtain ⟨pp, cp, rfl⟩ := owns_shape ho1; obtain ⟨ps, cs, rfl⟩ := owns_shape ho2; have HO := hide (And.intro ho1 (And.intro ho2 hd3)); have HB3 := hide (HB2.out.trans (hb3.mono HB2.out.size)); have HX3 := hide (HX2.out.keep (below_apart hb3) (by simp)); have HZ2 := hide HX2.out.lt; have z0 := HX3.out.cell 0 _ rfl; have z1 := HX3.out.cell 1 _ rfl; have z2 := HX3.out.cell 2 _ rfl; have z3 := HX3.out.cell 3 _ rfl; have z4 := HX3.out.cell 4 _ rfl; have z5 := HX3.out.cell 5 _ rfl; have fz := HX3.out.fz; clear ho1 ho2 hd3 hb3)
      | (go_at_call 11; refine (i_sound ns _ HSN.out _ _ HF.out ((HV.out.carry HB1.out).up HB1.out.size)).mono ?_; rintro e w2 ⟨rfl, hb2⟩; have HB2 := hide (HB1.out.trans (hb2.mono HB1.out.size)); have HX2 := hide (HX1.out.keep (below_apart hb2) (by simp));  clear hb2)
      | (go_at_call 35; refine (plan_right ns _ _ HF.out ((HV.out.carry (malloc1 _ _)).up (by simp))).mono ?_; rw [HR.out]; rintro e w1 ⟨rfl, hb1⟩; have HB1 := hide ((malloc1 w (.cells #[.slice none 0 0, .slice none 0 0, .slice none 0 0, .int .i64 0, .slice none 0 0, .int .i64 0] 43)).trans (hb1.mono (by simp))); have HX1 := hide (HX0.out.keep (below_apart hb1) (by simp));  clear hb1))
    have hX := set6_box HX3.out (.slice pp ns.length cp) (.slice ps (startsOf p (rolesS ns)).length cs) (.slice none 0 0) (.int .i64 0) (.slice none 0 0) (.int .i64 0)
    have hA := set6_apart w3 w.heap.size (.slice pp ns.length cp) (.slice ps (startsOf p (rolesS ns)).length cs) (.slice none 0 0) (.int .i64 0) (.slice none 0 0) (.int .i64 0)
    obtain ⟨W, hW⟩ : ∃ W, W = set6 w3 w.heap.size (.slice pp ns.length cp) (.slice ps (startsOf p (rolesS ns)).length cs) (.slice none 0 0) (.int .i64 0) (.slice none 0 0) (.int .i64 0) := ⟨_, rfl⟩
    rw [← hW] at hX hA
    have hW' := hW
    unfold set6 at hW'
    rw [← hW']
    clear hW hW'
    have k0 := hX.cell 0 _ rfl
    have k1 := hX.cell 1 _ rfl
    have k2 := hX.cell 2 _ rfl
    have k3 := hX.cell 3 _ rfl
    have k4 := hX.cell 4 _ rfl
    have k5 := hX.cell 5 _ rfl
    obtain ⟨o1, o2, o3⟩ := HO.out
    have hz2 := HZ2.out
    refine bodyPost_ret_by (v := .agg #[.slice pp ns.length cp, .slice ps (startsOf p (rolesS ns)).length cs, .slice none 0 0, .int .i64 0, .slice none 0 0, .int .i64 0]) ?_ rfl ⟨⟨_, _, rfl, ?_, ?_, o3⟩, HB3.out.trans (hA.below HB3.out.size (by simp))⟩
    · unfold results
      go_simp
    · exact owns_down (owns_keep o1 hA (fun b hb hm => by simp at hm; have := (owns_fresh o1).lo b hb; omega)) HB2.out.size
    · exact owns_down (owns_keep o2 hA (fun b hb hm => by simp at hm; have := (owns_fresh o2).lo b hb; omega)) HB2.out.size
end Go.Proofs.YtaaeledleldllaaGreat
