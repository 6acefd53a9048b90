/- The graph of a machine: a map from a state and an act to where it leads. -/
import Derived.Test.YthaomohoiginnaaTurnKey
import Derived.Test.YthaomohoiginnaaStepT
import Derived.Test.YthaomohoiginnaaActsJ0
import Derived.Test.YthaomohoiginnaaTail
import Derived.Test.YthaomohoiginnaaApartB
namespace Go.Proofs.Ythaomohoiginnaa
open Go.RowKit Go.Maps
attribute [local go_sem ↓] Go.wp_at_zero Go.wp_at_succ

def GraphAt (w : World) (m : Mach) (es : List REdge) (b n : Nat) : Prop :=
  ∃ D : DataW Unit, w.ownsMap Try.prog 189 (plainElem Try.prog 2) b n D ∧ ∀ f a kl, keyOf Try.prog 189 (turnV f a) = some kl →
    (Maps.has D kl = true → ∃ e ∈ es, e.src = f ∧ actE m f e = a ∧ ∀ z, D.atKey kl z = .lit (.int .i64 e.dst)) ∧ (Maps.has D kl = false → ∀ e ∈ es, ¬ (e.src = f ∧ actE m f e = a))
theorem turnV_inj {f f' : Int} {a a' : RAct} (h : turnV f a = turnV f' a') : f = f' ∧ a = a' := by
  cases a; cases a'
  simp [turnV] at h
  refine ⟨?_, ?_⟩ <;> simp_all
theorem graph_new (w : World) (m : Mach) : GraphAt (w.alloc (.map #[] 0)) m [] w.heap.size 0 :=
  ⟨.map [], World.ownsMap_made w _ _ _, fun f a kl hk => ⟨fun h => by simp [Maps.has] at h, fun _ e he => by cases he⟩⟩
theorem GraphAt.keep {w w' : World} {m : Mach} {es : List REdge} {b n : Nat} {l : List Nat} (h : GraphAt w m es b n) (ha : Apart w w' l) (hn : b ∉ l) : GraphAt w' m es b n := by
  obtain ⟨D, h1, h2⟩ := h
  refine ⟨D, ?_, h2⟩
  obtain ⟨es', clock, he, hr⟩ := h1
  exact ⟨es', clock, (ha.block b (Array.getElem?_eq_some_iff.1 he).1 hn).trans he, hr⟩
theorem graph_put {w w' : World} {m : Mach} {es : List REdge} {e0 : REdge} {b n : Nat} {D : DataW Unit} {kl : Lit} (hown : w.ownsMap Try.prog 189 (plainElem Try.prog 2) b n D)
    (hD : ∀ f a kl, keyOf Try.prog 189 (turnV f a) = some kl → (Maps.has D kl = true → ∃ e ∈ es, e.src = f ∧ actE m f e = a ∧ ∀ z, D.atKey kl z = .lit (.int .i64 e.dst)) ∧ (Maps.has D kl = false → ∀ e ∈ es, ¬ (e.src = f ∧ actE m f e = a)))
    (hkey : keyOf Try.prog 189 (turnV e0.src (actE m e0.src e0)) = some kl) (hown' : w'.ownsMap Try.prog 189 (plainElem Try.prog 2) b (n + 1) (D.put kl (.lit (.int .i64 e0.dst)))) : GraphAt w' m (es ++ [e0]) b (n + 1) := by
  refine ⟨_, hown', fun f a k' hk' => ?_⟩
  have hmap := hown.isMap
  have hkl := turn_keyed.key hkey
  by_cases he : k' = kl
  · subst he
    have hv := turn_keyed.inj hk' hkey
    obtain ⟨rfl, rfl⟩ := turnV_inj hv
    refine ⟨fun _ => ⟨e0, by simp, rfl, rfl, fun z => atKey_put_same hmap hkl _ z⟩, fun h => ?_⟩
    rw [has_put_same hmap hkl] at h
    cases h
  · obtain ⟨h1, h2⟩ := hD f a k' hk'
    refine ⟨fun h => ?_, fun h => ?_⟩
    · rw [has_put_other he] at h
      obtain ⟨e, he1, he2, he3, he4⟩ := h1 h
      exact ⟨e, List.mem_append_left _ he1, he2, he3, fun z => by rw [atKey_put_other he]; exact he4 z⟩
    · rw [has_put_other he] at h
      intro e he1
      rcases List.mem_append.1 he1 with h3 | h3
      · exact h2 h e h3
      · simp at h3
        subst h3
        rintro ⟨rfl, rfl⟩
        rw [hk'] at hkey
        exact he (Option.some.inj hkey)
theorem act_rng {m : Mach} (h : machB m = true) {e : REdge} (he : e ∈ m.edges) (s : Int) : (actE m s e).rng := by
  have h1 := state_kind h s
  have h2 := edge_bounds h he
  exact ⟨⟨by simp only [actE]; omega, by simp only [actE]; omega⟩, ⟨by simp only [actE]; omega, by simp only [actE]; omega⟩⟩
theorem act_ok {m : Mach} (hf : m.fit) {e : REdge} (he : e ∈ m.edges) (s : Int) : (actE m s e).ok := by
  have := act_fit hf he s
  exact ⟨Nat.le_trans this.1 (by unfold maxLen; omega), Nat.le_trans this.2 (by unfold maxLen; omega)⟩
theorem act_of_at {c : Value} {m : Mach} {x : REdge} (hc : (actE m x.src x).val = c) (v : Value) (w : World) (hv : MachAt w v m) (h0 : 0 ≤ x.src) (h1 : x.src < (m.states.length : Int)) :
    Calls Try.prog 137 #[v, x.val] w fun e w' => e = .returned c ∧ Below w.heap.size w w' := by subst hc; exact act_of m x v w hv h0 h1

theorem wp_letter {P : Program} {c : Code} {Q : Exit → Act → World → Prop} {a : Act} {w : World} (h : ∀ W, W = w → c.wp P Q a W) : c.wp P Q a w := h w rfl
theorem c4_at (w : World) (A B C D : Obj) (k : Nat) (cs : Array Value) (t : TypeId) (off : Nat) (v : Value) (hk : ((((w.alloc A).alloc B).alloc C).alloc D).heap[k]? = some (.cells cs t)) (h : cs[off]? = some v) : ((((w.alloc A).alloc B).alloc C).alloc D).cell? ⟨k, off, none⟩ = some v := by
  simp only [World.cell?]
  rw [hk]
  simpa using h
theorem c4_0 (w : World) (B C D : Obj) (cs : Array Value) (t : TypeId) (off : Nat) (v : Value) (h : cs[off]? = some v) : ((((w.alloc (.cells cs t)).alloc B).alloc C).alloc D).cell? ⟨w.heap.size, off, none⟩ = some v :=
  c4_at _ _ _ _ _ _ cs t off v (by rw [mheap_old _ _ _ (by simp; omega), mheap_old _ _ _ (by simp; omega), mheap_old _ _ _ (by simp), mheap_new _ _ _ rfl]) h
theorem c4_1 (w : World) (A C D : Obj) (cs : Array Value) (t : TypeId) (off : Nat) (v : Value) (h : cs[off]? = some v) : ((((w.alloc A).alloc (.cells cs t)).alloc C).alloc D).cell? ⟨w.heap.size + 1, off, none⟩ = some v :=
  c4_at _ _ _ _ _ _ cs t off v (by rw [mheap_old _ _ _ (by simp), mheap_old _ _ _ (by simp), mheap_new _ _ _ (by simp)]) h
theorem f4_1 (w : World) (A C D : Obj) (cs : Array Value) (t : TypeId) (off : Nat) : ((((w.alloc A).alloc (.cells cs t)).alloc C).alloc D).frozen? ⟨w.heap.size + 1, off, none⟩ = false := by
  have hk : ((((w.alloc A).alloc (.cells cs t)).alloc C).alloc D).heap[w.heap.size + 1]? = some (.cells cs t) := by rw [mheap_old _ _ _ (by simp), mheap_old _ _ _ (by simp), mheap_new _ _ _ (by simp)]
  simp only [World.frozen?]
  rw [hk]
  simp
theorem c4_3 (w : World) (A B C : Obj) (cs : Array Value) (t : TypeId) (off : Nat) (v : Value) (h : cs[off]? = some v) : ((((w.alloc A).alloc B).alloc C).alloc (.cells cs t)).cell? ⟨w.heap.size + 1 + 1 + 1, off, none⟩ = some v :=
  c4_at _ _ _ _ _ _ cs t off v (by rw [mheap_new _ _ _ (by simp)]) h
set_option maxRecDepth 100000 in
set_option maxHeartbeats 1000000 in
theorem graph_of (m : Mach) (v : Value) (w : World) (hm : machB m = true) (hf : m.fit) (hv : MachAt w v m) :
    Calls Try.prog 90 #[v] w fun e w' => ∃ sv b, e = .returned (.agg #[sv, .map (some b)]) ∧ RStateSl w' w'.heap.size sv m.states ∧ GraphAt w' m m.edges b m.edges.length ∧ w.heap.size ≤ b ∧ Below w.heap.size w w' := by
  have HF := hide hf
  have HM := hide hm
  have HV : Hid (∀ W, Below w.heap.size w W → MachAt W v m) := hide (fun W hb => hv.carry hb)
  obtain ⟨sv, ev, rfl, hs, he⟩ := hv
  have HS := hide hs
  have hsl := hs.lenm
  obtain ⟨sa, sc, rfl, hs1, hs2, hs3⟩ := hs
  obtain ⟨ea, ec, rfl, he1, he2, he3⟩ := he
  have HER := hide he3
  have h80 := mach_80 hm
  clear hs3 he3 hf hm
  have hmk : ∀ W : World, (Instr.makeMap 119 none).run Try.prog W = .ok (.map (some W.heap.size)) (W.alloc (.map #[] 0)) := fun W => rfl
  go_enter Try.func90, Try.ntmps90
  go_wp2_with fail
  refine wp_letter (fun W1 hW1 => ?_)
  have hsz1 : W1.heap.size = w.heap.size + 4 := by rw [hW1]; simp
  have m0 : W1.cell? ⟨w.heap.size, 0, none⟩ = some (.slice sa m.states.length sc) := by rw [hW1]; exact c4_0 _ _ _ _ _ _ _ _ rfl
  have m1 : W1.cell? ⟨w.heap.size, 1, none⟩ = some (.slice ea m.edges.length ec) := by rw [hW1]; exact c4_0 _ _ _ _ _ _ _ _ rfl
  have m2 : W1.cell? ⟨w.heap.size, 2, none⟩ = some (.int .i64 m.start) := by rw [hW1]; exact c4_0 _ _ _ _ _ _ _ _ rfl
  have r0 : W1.cell? ⟨w.heap.size + 1, 0, none⟩ = some (.slice none 0 0) := by rw [hW1]; exact c4_1 _ _ _ _ _ _ _ _ rfl
  have r1 : W1.cell? ⟨w.heap.size + 1, 1, none⟩ = some (.map none) := by rw [hW1]; exact c4_1 _ _ _ _ _ _ _ _ rfl
  have fr : ∀ j, W1.frozen? ⟨w.heap.size + 1, j, none⟩ = false := fun j => by rw [hW1]; exact f4_1 _ _ _ _ _ _ _
  have g0 : W1.cell? ⟨w.heap.size + 1 + 1 + 1, 0, none⟩ = some (.slice sa m.states.length sc) := by rw [hW1]; exact c4_3 _ _ _ _ _ _ _ _ rfl
  have g1 : W1.cell? ⟨w.heap.size + 1 + 1 + 1, 1, none⟩ = some (.map (some (w.heap.size + 1 + 1))) := by rw [hW1]; exact c4_3 _ _ _ _ _ _ _ _ rfl
  have HG0 : Hid (GraphAt W1 m [] (w.heap.size + 1 + 1) 0) := hide (by
    rw [hW1]
    have := (graph_new ((w.alloc (.cells #[.slice sa m.states.length sc, .slice ea m.edges.length ec, .int .i64 m.start] 45)).alloc (.cells #[.slice none 0 0, .map none] 121)) m).keep (below_apart (malloc1 _ (.cells #[.slice sa m.states.length sc, .map (some (w.heap.size + 1 + 1))] 121))) (by simp)
    simpa using this)
  have HB1 : Hid (Below w.heap.size w W1) := hide (by rw [hW1]; exact ((balloc2 _ _ _).trans ((malloc1 _ _).mono (by simp; omega))).trans ((malloc1 _ _).mono (by simp; omega)))
  have HFR := hide fr
  clear hW1 hmk fr
  go_loopw [13] (fun i wr => ∃ k : Nat, k ≤ m.edges.length ∧ i = .int .i64 k ∧ GraphAt wr m (m.edges.take k) (w.heap.size + 1 + 1) k ∧ Apart W1 wr [w.heap.size + 1 + 1]) (fun i _ => m.edges.length - (intOf i).toNat)
  case atStart => exact ⟨0, Nat.zero_le _, rfl, HG0.out, (Apart.refl W1).weak⟩
  case round =>
    obtain ⟨k, hk, rfl, hgr, hap⟩ := hrel
    have HGR := hide hgr
    have HAP := hide hap
    have hsr : w.heap.size + 4 ≤ wr.heap.size := by have := hap.size; omega
    have HW : Hid (Below w.heap.size w wr) := hide (HB1.out.trans (hap.below (by omega) (by simp; omega)))
    have m0' := hap.cell' m0 (by simp <;> omega)
    have m1' := hap.cell' m1 (by simp <;> omega)
    have m2' := hap.cell' m2 (by simp <;> omega)
    have g0' := hap.cell' g0 (by simp <;> omega)
    have g1' := hap.cell' g1 (by simp <;> omega)
    clear hgr hap
    by_cases hlt : k < m.edges.length
    · obtain ⟨b, o, rfl, hbB, hrow⟩ := HER.out (by intro h; simp [h] at hlt)
      have hnode := (hrow.get k hlt).carry hbB HW.out
      obtain ⟨e1, he1'⟩ : ∃ e1, e1 = m.edges[k] := ⟨_, rfl⟩
      have hmem : e1 ∈ m.edges := by rw [he1']; exact List.getElem_mem hlt
      rw [← he1'] at hnode
      obtain ⟨d0, d1, d2, d3⟩ := hnode
      have HBD := hide (edge_bounds HM.out hmem)
      have hdw : i64B e1.dst := by have := HBD.out; have := mach_40 HM.out; constructor <;> omega
      have hsw : i64B e1.src := by have := HBD.out; have := mach_40 HM.out; constructor <;> omega
      obtain ⟨kl, hkl⟩ := turn_key e1.src (actE m e1.src e1) hsw (act_rng HM.out hmem _) (act_ok HF.out hmem _)
      have HKL := hide hkl
      have HEL := hide (plainElem_int (H := Unit) Try.underlying2 (i64_wf hdw))
      have HTK : Hid (m.edges.take (k + 1) = m.edges.take k ++ [e1]) := hide (by rw [List.take_succ_eq_append_getElem hlt, ← he1'])
      obtain ⟨ac, hac⟩ : ∃ ac, ac = actE m e1.src e1 := ⟨_, rfl⟩
      have HAC := hide hac
      clear he1' hrow hmem hdw hsw hkl hac
      go_wp2_with fail
      refine wp_region_tail 10 (by kernel_rfl) (by kernel_rfl) (fun W hW => ?_)
      simp only [List.take_succ_cons, List.take_zero, List.drop_succ_cons, List.drop_zero]
      have hne := grown_some W
      have HBW : Hid (Below wr.heap.size wr W) := hide (by rw [hW]; exact malloc1 _ _)
      have f0 := grown_cell (w := W) (by rw [hW]; exact ((malloc1 wr _).cell (p := ⟨w.heap.size, 0, none⟩) (by show w.heap.size < wr.heap.size; omega)).trans m0')
      have f1 := grown_cell (w := W) (by rw [hW]; exact ((malloc1 wr _).cell (p := ⟨w.heap.size, 1, none⟩) (by show w.heap.size < wr.heap.size; omega)).trans m1')
      have f2 := grown_cell (w := W) (by rw [hW]; exact ((malloc1 wr _).cell (p := ⟨w.heap.size, 2, none⟩) (by show w.heap.size < wr.heap.size; omega)).trans m2')
      have f4 := grown_cell (w := W) (by rw [hW]; exact ((malloc1 wr _).cell (p := ⟨w.heap.size + 1 + 1 + 1, 1, none⟩) (by show w.heap.size + 1 + 1 + 1 < wr.heap.size; omega)).trans g1')
      have k0 := grown_cell (w := W) (b := wr.heap.size) (o := 0) (v := .int .i64 e1.src) (by rw [hW]; simp)
      have k1 := grown_cell (w := W) (b := wr.heap.size) (o := 1) (v := .string e1.label) (by rw [hW]; simp)
      have k2 := grown_cell (w := W) (b := wr.heap.size) (o := 2) (v := .int .i64 e1.sort) (by rw [hW]; simp)
      have k3 := grown_cell (w := W) (b := wr.heap.size) (o := 3) (v := .int .i64 e1.dst) (by rw [hW]; simp)
      have HWE := hide hW
      clear hW
      repeat (go_big_quiet_step ((go_at_call 137; exact grown_more (act_of_at (c := .agg #[.int .i64 ac.kind, .string ac.peer, .string ac.label, .int .i64 ac.sort]) (by rw [HAC.out]; rfl) _ _ ((HV.out _ (HW.out.trans (HBW.out.mono HW.out.size))).carry (Grown.bel _)) HBD.out.1 HBD.out.2.1))))
      refine wpQuiet_nil ?_
      intro w2 hw2
      have HB2 : Hid (Below wr.heap.size wr w2) := hide (HBW.out.trans (hw2.mono HBW.out.size))
      have HG2 : Hid (GraphAt w2 m (m.edges.take k) (w.heap.size + 1 + 1) k) := hide (HGR.out.keep (below_apart HB2.out) (by simp))
      obtain ⟨D, hD1, hD2⟩ := HG2.out
      have HD1 := hide hD1
      have HD2 := hide hD2
      clear hw2 hne f0 f1 f2 f4 k0 k1 k2 k3 HWE hD1 hD2
      go_wp2_with (at_mapUpdate; refine wpList_mapUpdate_own _ rfl _ _ _ 119 rfl 189 2 turn_keyed Try.underlying119 _ (w.heap.size + 1 + 1) k D rfl HD1.out (by unfold maxLen; omega) (turnV e1.src ac) _ kl rfl rfl (by rw [HAC.out]; exact HKL.out) _ [] HEL.out ?_; intro w3 hown3 hgr3; have HO3 := hide hown3; have HGR3 := hide hgr3; clear hown3 hgr3)
      go_roundw
      case rel =>
        refine ⟨k + 1, hlt, by go_num, ?_, ?_⟩
        · rw [HTK.out]
          exact graph_put HD1.out HD2.out HKL.out HO3.out
        · have := (HAP.out.then HB2.out).trans (Apart.grown HGR3.out)
          exact this.same
      case measure => simp [intOf]; omega
    · have HALL : Hid (GraphAt wr m m.edges (w.heap.size + 1 + 1) m.edges.length) := hide (by
        have := HGR.out
        rw [List.take_of_length_le (by omega)] at this
        rwa [show k = m.edges.length by omega] at this)
      have r0' := HAP.out.cell' r0 (by simp)
      have r1' := HAP.out.cell' r1 (by simp)
      have fr0 := HAP.out.frozen' (by omega) (HFR.out 0) (by simp)
      have fr1 := HAP.out.frozen' (by omega) (HFR.out 1) (by simp)
      go_wp2_with fail
      obtain ⟨W, hW⟩ : ∃ W, W = ((wr.setCell ⟨w.heap.size + 1, 0, none⟩ (.slice sa m.states.length sc)).setCell ⟨w.heap.size + 1, 1, none⟩ (.map (some (w.heap.size + 1 + 1)))) := ⟨_, rfl⟩
      have z0 : W.cell? ⟨w.heap.size + 1, 0, none⟩ = some (.slice sa m.states.length sc) := by
        rw [hW, World.cell?_setCell_other _ _ _ _ (by simp)]
        exact World.cell?_setCell_same _ _ _ r0'
      have z1 : W.cell? ⟨w.heap.size + 1, 1, none⟩ = some (.map (some (w.heap.size + 1 + 1))) := by
        rw [hW]
        exact World.cell?_setCell_same _ _ _ (u := .map none) (by rw [World.cell?_setCell_other _ _ _ _ (by simp)]; exact r1')
      rw [← hW]
      have hbW : Below w.heap.size w W := by
        rw [hW]
        exact (HW.out.setCell (p := ⟨w.heap.size + 1, 0, none⟩) (by simp) _).setCell (p := ⟨w.heap.size + 1, 1, none⟩) (by simp) _
      have hA : Apart wr W [w.heap.size + 1] := by
        rw [hW]
        exact (((Apart.refl wr).weak).setCell _ _).setCell _ _
      refine bodyPost_ret_by (v := .agg #[.slice sa m.states.length sc, .map (some (w.heap.size + 1 + 1))]) ?_ rfl ⟨_, _, rfl, (HS.out.carry hbW).up hbW.size, HALL.out.keep hA (by simp), by omega, hbW⟩
      unfold results
      go_simp
end Go.Proofs.Ythaomohoiginnaa
