/- NetRight of the program: how many go between two is counted in a map. -/
import Derived.Test.YtonafcifolddjaaGreatDoorQB17
import Derived.Test.YtonafcifolddjaaGreatDoorQB05
import Derived.Test.YtonafcifolddjaaGreatDoorQB06
import Derived.Maps.OwnSet
import Derived.Maps.OwnOps
import Derived.DeepKeys4
import Derived.Deep.DrawnRows
import Derived.WideKeyEntry
import Derived.Deep.RegionWith
namespace Go.Proofs.YtonafcifolddjaaGreatDoor
open Go.RowKit Go.Maps
attribute [local go_sem ↓] Go.wp_at_zero Go.wp_at_succ

def endsV (f t : ByteArray) : Value := .agg #[.string f, .string t]
theorem Tryz.laidOutE : laidOutB Tryz.prog = true := by kernel_rfl
theorem Tryz.endsRow : (90 : TypeId) < Tryz.prog.types.size := of_decide_eq_true (by kernel_rfl)
theorem Tryz.endsCells : Tryz.prog.cellsOf 90 = 2 := by kernel_rfl
theorem Tryz.strCellsE : Tryz.prog.cellsOf 9 = 1 := by kernel_rfl
theorem Tryz.endsType : Tryz.prog.keyType 90 = true := by kernel_rfl
theorem ends_keyed : Keyed Tryz.prog 90 := Keyed.of_law (deep_law_laid Tryz.laidOutE (m := 4) (by omega) Tryz.endsRow (by kernel_rfl) (by kernel_rfl))
theorem Tryz.typesTwoE : 2 < Tryz.prog.types.size := of_decide_eq_true (by kernel_rfl)
theorem Tryz.typesManyE : ∃ d, Tryz.prog.types.size + 1 = d + 3 := by
  have h := Tryz.typesTwoE
  generalize Tryz.prog.types.size = n at h
  exact ⟨n - 2, by omega⟩
set_option maxRecDepth 10000 in
theorem ends_key (f t : ByteArray) (hf : f.size ≤ maxLen) (ht : t.size ≤ maxLen) : ∃ kl, keyOf Tryz.prog 90 (endsV f t) = some kl := by
  obtain ⟨d, hd⟩ := Tryz.typesManyE
  have hform : (endsV f t).formed Tryz.prog 90 = true := by
    simp [Value.formed, endsV, Tryz.underlying90, Tryz.endsCells]
  unfold keyOf
  rw [Tryz.underlying90]
  simp only []
  rw [if_pos (by rw [Tryz.endsType, hform]; rfl), hd]
  simp +decide [Program.keyLits, endsV, Value.cells, Tryz.underlying90, Tryz.underlying9, Tryz.endsCells, Tryz.strCellsE, hf, ht]
theorem endsV_inj {f f' t t' : ByteArray} (h : endsV f t = endsV f' t') : f = f' ∧ t = t' := by
  simp [endsV] at h
  exact h
/-- the map counts the messages of l -/
def CntAt (w : World) (l : List RMsg) (b n : Nat) : Prop :=
  ∃ D : DataW Unit, w.ownsMap Tryz.prog 90 (plainElem Tryz.prog 3) b n D ∧ ∀ f t kl, keyOf Tryz.prog 90 (endsV f t) = some kl → D.atKey kl (.lit (.int .i64 0)) = .lit (.int .i64 (cntM f t l : Nat))
theorem cnt_new (w : World) : CntAt (w.alloc (.map #[] 0)) [] w.heap.size 0 :=
  ⟨.map [], World.ownsMap_made w _ _ _, fun f t kl hk => by rfl⟩
theorem CntAt.keep {w w' : World} {ms : List RMsg} {b n : Nat} {l : List Nat} (h : CntAt w ms b n) (ha : Apart w w' l) (hn : b ∉ l) : CntAt w' ms b n := by
  obtain ⟨D, h1, h2⟩ := h
  refine ⟨D, ?_, h2⟩
  obtain ⟨es', clock, he, hr⟩ := h1
  exact ⟨es', clock, (ha.block b (Array.getElem?_eq_some_iff.1 he).1 hn).trans he, hr⟩
theorem cnt_put {w w' : World} {l : List RMsg} {m : RMsg} {b n : Nat} {D : DataW Unit} {kl : Lit} (hown : w.ownsMap Tryz.prog 90 (plainElem Tryz.prog 3) b n D)
    (hD : ∀ f t kl, keyOf Tryz.prog 90 (endsV f t) = some kl → D.atKey kl (.lit (.int .i64 0)) = .lit (.int .i64 (cntM f t l : Nat)))
    (hkey : keyOf Tryz.prog 90 (endsV m.frm m.to) = some kl) (hown' : w'.ownsMap Tryz.prog 90 (plainElem Tryz.prog 3) b (n + 1) (D.put kl (.lit (.int .i64 ((cntM m.frm m.to l : Nat) + 1))))) : CntAt w' (l ++ [m]) b (n + 1) := by
  refine ⟨_, hown', fun f t k' hk' => ?_⟩
  have hmap := hown.isMap
  have hkl := ends_keyed.key hkey
  by_cases he : k' = kl
  · subst he
    obtain ⟨rfl, rfl⟩ := endsV_inj (ends_keyed.inj hk' hkey)
    rw [atKey_put_same hmap hkl, cntM_app, cntM_one, isMsg_self]
    simp
  · rw [atKey_put_other he, hD f t k' hk', cntM_app, cntM_one]
    have : isMsg f t m = false := by
      cases h : isMsg f t m
      · rfl
      · obtain ⟨rfl, rfl⟩ := isMsg_iff.1 h
        rw [hk'] at hkey
        exact absurd (Option.some.inj hkey) he
    rw [this]
    simp
theorem zero_intE (w : World) : (zeroValue 3).run Tryz.prog w = .ok (.int .i64 0) w := Tryz.zeroValue3 w
set_option maxRecDepth 10000 in
theorem cnt_look' {w : World} {l : List RMsg} {b n : Nat} {f t : ByteArray} (h : CntAt w l b n) (hf : f.size ≤ maxLen) (ht : t.size ≤ maxLen) :
    (Instr.lookup 88 (.map (some b)) (endsV f t) false).run Tryz.prog w = .ok (.int .i64 (cntM f t l : Nat)) w := by
  obtain ⟨D, h1, h2⟩ := h
  obtain ⟨kl, hkl⟩ := ends_key f t hf ht
  obtain ⟨c, hrun, hat, -⟩ := h1.lookup_int ends_keyed Tryz.underlying88 Tryz.underlying3 (zero_intE w) hkl
  rw [h2 f t kl hkl] at hat
  injection hat with hat
  injection hat with _ hat
  rw [hat]
  exact hrun
theorem cnt_look {w : World} {l : List RMsg} {b n : Nat} {f t : ByteArray} (h : CntAt w l b n) (hf : f.size ≤ maxLen) (ht : t.size ≤ maxLen) {c : Nat} (hc : cntM f t l = c) :
    (Instr.lookup 88 (.map (some b)) (.agg #[.string f, .string t]) false).run Tryz.prog w = .ok (.int .i64 (c : Nat)) w := by
  subst hc
  have h1 := cnt_look' h hf ht
  unfold endsV at h1
  exact h1
theorem Tryz.infoEnds : (Tryz.prog.info? 90).map (fun i => (i.zero, i.size, i.bytes)) = some (some (.agg #[.string ByteArray.empty, .string ByteArray.empty]), 2, 32) := by kernel_rfl
set_option maxHeartbeats 400000 in
theorem ends_of (m : RMsg) (w : World) : Calls Tryz.prog 67 #[m.val] w fun e w' => e = .returned (.agg #[.string m.frm, .string m.to]) ∧ Below w.heap.size w w' := by
  have hi : (Tryz.prog.info? 90).map (·.size) = some 2 := by
    obtain ⟨i0, hi, _, hz1, _⟩ := info_parts Tryz.infoEnds
    rw [hi]; simp [hz1]
  have HI := hide hi
  clear hi
  unfold RMsg.val
  go_enter Tryz.func67, Tryz.ntmps67
  go_wp2_with fail
  refine bodyPost_ret_by (results_cell_row rfl _ _ (w.heap.size + 1) 90 #[.string m.frm, .string m.to] (0, 0) _ rfl ?_ Tryz.underlying90 rfl HI.out) rfl ⟨rfl, (malloc1 _ _).trans ((malloc1 _ _).mono (by simp))⟩
  rw [mheap_new _ _ _ (by simp)]
theorem Apart.weakN {w w' : World} {l : List Nat} (h : Apart w w' []) : Apart w w' l := ⟨h.os, h.tape, h.output, h.size, fun b hb _ => h.block b hb (by simp)⟩
theorem Apart.sameN {w w' : World} {b : Nat} (h : Apart w w' ([b] ++ [b])) : Apart w w' [b] := ⟨h.os, h.tape, h.output, h.size, fun k hk hn => h.block k hk (by simp at hn; simp [hn])⟩
theorem Apart.cellN {w w' : World} {l : List Nat} (h : Apart w w' l) {b o : Nat} {x : Value} (hc : w.cell? ⟨b, o, none⟩ = some x) (hl : b ∉ l) : w'.cell? ⟨b, o, none⟩ = some x :=
  (World.cell?_of_block (a := ⟨b, o, none⟩) (h.block b (World.block_lt_of_cell? w _ hc) hl)).trans hc
end Go.Proofs.YtonafcifolddjaaGreatDoor
/- counts[k]++ where the key is handed back by a call. -/
namespace Go.Proofs.YtonafcifolddjaaGreatDoor
open Go.RowKit Go.Maps Go.ChangeMaps Go.MapKept
open Go.WideElems (Fit entry_then_store)

set_option maxRecDepth 10000 in
theorem ends_law : Go.WideMaps.KeyLaw Tryz.prog 90 := deep_law_laid Tryz.laidOutE (m := 4) (by omega) Tryz.endsRow (by kernel_rfl) (by kernel_rfl)
set_option maxRecDepth 10000 in
theorem cnt_bump {w : World} {l : List RMsg} {b n c : Nat} {m : RMsg} (h : CntAt w l b n) (hok : m.ok) (hn : n < 1000) (hc : cntM m.frm m.to l = c) (hc3 : c ≤ 3) :
    ∃ v0 st W4 W5, (Instr.mapEntry 88 (.map (some b)) (.agg #[.string m.frm, .string m.to])).run Tryz.prog w = .ok (.tuple #[v0, st]) W4 ∧
      (Instr.lookup 88 (.map (some b)) (.agg #[.string m.frm, .string m.to]) false).run Tryz.prog W4 = .ok (.int .i64 (c : Nat)) W4 ∧
      (Instr.entryStore 88 (.map (some b)) st (.int .i64 (IntKind.i64.wrap ((c : Int) + 1)))).run Tryz.prog W4 = .ok () W5 ∧ CntAt W5 (l ++ [m]) b (n + 1) ∧ Apart w W5 [b] := by
  have hwr : IntKind.i64.wrap ((c : Int) + 1) = (c : Int) + 1 := by rw [IntKind.wrap_i64]; omega
  rw [hwr]
  have hl0 := cnt_look h hok.1 hok.2.1 hc
  obtain ⟨kl, hkl⟩ := ends_key m.frm m.to hok.1 hok.2.1
  unfold endsV at hkl
  obtain ⟨D, hown, hD⟩ := h
  have hown0 := hown
  obtain ⟨es, clock, hb, F, hs, rfl⟩ := hown
  obtain ⟨v0, st, es1, clock1, hme, hdj, hst⟩ := entry_then_store ends_law Tryz.underlying88 zero_intE hb F hkl
  have hb4 : (setBlock w b (.map es1 clock1)).heap[b]? = some (.map es1 clock1) := heap_setBlock_same hb _
  obtain ⟨es', clock', hs5, hup⟩ := hst _ (.int .i64 ((c : Int) + 1)) hb4
  refine ⟨v0, _, _, _, hme, ?_, hs5, ?_, ?_⟩
  · obtain ⟨es2, clock2, hs6, hup0⟩ := hst _ (.int .i64 0) hb4
    have hkd : Keyed Tryz.prog 90 := ends_keyed
    rcases hkd.find w hkl es.toList F.keys with ⟨h1, h2⟩ | ⟨j, e0, h1, h2, h3⟩
    · have r1 : (Instr.mapEntry 88 (.map (some b)) (.agg #[.string m.frm, .string m.to])).run Tryz.prog w = .ok (.tuple #[.int .i64 0, goInt clock]) (setBlock w b (.map (es.push ⟨.agg #[.string m.frm, .string m.to], .int .i64 0, clock⟩) (clock + 1))) := by
        simp [Instr.mapEntry, run_underlying Tryz.underlying88, MapKept.run_getObj_map hb, hkd.check w false hkl, h1, MapKept.run_setObj_map _ hb, Result.andThen, setBlock]
      have r2 : (Instr.mapUpdate 88 (.map (some b)) (.agg #[.string m.frm, .string m.to]) (.int .i64 0)).run Tryz.prog w = .ok () (setBlock w b (.map (es.push ⟨.agg #[.string m.frm, .string m.to], .int .i64 0, clock⟩) (clock + 1))) := by
        simp [Instr.mapUpdate, run_underlying Tryz.underlying88, MapKept.run_getObj_map hb, hkd.check w false hkl, h1, MapKept.run_setObj_map _ hb, Result.andThen, setBlock]
      have r3 : (Instr.lookup 88 (.map (some b)) (.agg #[.string m.frm, .string m.to]) false).run Tryz.prog w = .ok (.int .i64 0) w := by
        simp [Instr.lookup, run_underlying Tryz.underlying88, MapKept.run_getObj_map hb, hkd.check w es.isEmpty hkl, h1, Result.andThen]
      have r3' := Result.ok.inj (hl0.symm.trans r3)
      have r3 := (Value.int.inj r3'.1).2
      have hme := (Result.ok.inj (r1.symm.trans hme)).2
      obtain ⟨w', hrun, hown', hgr⟩ := hown0.update ends_keyed Tryz.underlying88 (by unfold maxLen; omega) hkl (plainElem_int (H := Unit) Tryz.underlying3 (a := 0) (by decide))
      have hrun := (Result.ok.inj (r2.symm.trans hrun)).2
      rw [hme] at hrun
      rw [hrun]
      refine cnt_look (l := l) (n := n + 1) ⟨_, hown', fun f t k' hk' => ?_⟩ hok.1 hok.2.1 hc
      by_cases he : k' = kl
      · subst he
        obtain ⟨rfl, rfl⟩ := endsV_inj (ends_keyed.inj hk' (by unfold endsV; exact hkl))
        rw [atKey_put_same hown0.isMap (ends_keyed.key hkl), hc, r3]
      · rw [atKey_put_other he]
        exact hD f t k' hk'
    · have hj : es[j]? = some e0 := by simpa using h2
      have hsame : es.modify j (fun e => { e with key := .agg #[.string m.frm, .string m.to] }) = es := by
        apply Array.ext'
        rw [Array.toList_modify]
        apply List.ext_getElem?
        intro i
        rw [List.getElem?_modify]
        by_cases hi : j = i
        · subst hi
          rw [h2]
          simp [← h3]
        · simp [hi]
      have r1 : (Instr.mapEntry 88 (.map (some b)) (.agg #[.string m.frm, .string m.to])).run Tryz.prog w = .ok (.tuple #[e0.val, goInt e0.born]) (setBlock w b (.map es clock)) := by
        simp [Instr.mapEntry, run_underlying Tryz.underlying88, MapKept.run_getObj_map hb, hkd.check w false hkl, h1, hj, h3, hkd.stays w hkl, hsame, MapKept.run_setObj_map _ hb, Result.andThen, setBlock]
      have hme := (Result.ok.inj (r1.symm.trans hme)).2
      rw [← hme]
      exact cnt_look (l := l) (n := n) ⟨_, ⟨es, clock, heap_setBlock_same hb _, F, hs, rfl⟩, hD⟩ hok.1 hok.2.1 hc
  · obtain ⟨w', hrun, hown', hgr⟩ := hown0.update ends_keyed Tryz.underlying88 (by unfold maxLen; omega) hkl (plainElem_int (H := Unit) Tryz.underlying3 (a := (c : Int) + 1) (by simp [Lit.wf, IntKind.min, IntKind.max, IntKind.signed, IntKind.bits]; omega))
    have hrun := (Result.ok.inj (hup.symm.trans hrun)).2
    have hb' : w'.heap[b]? = some (.map es' clock') := by rw [← hrun]; exact heap_setBlock_same hb _
    have : CntAt w' (l ++ [m]) b (n + 1) := cnt_put hown0 hD hkl (by rw [hc]; exact hown')
    obtain ⟨D2, ⟨es3, clock3, hb3, F3, hs3, rfl⟩, hD3⟩ := this
    rw [hb'] at hb3
    refine ⟨_, ⟨es3, clock3, ?_, F3, hs3, rfl⟩, hD3⟩
    rw [← hb3]
    exact heap_setBlock_same hb4 _
  · refine ⟨rfl, rfl, rfl, by simp [setBlock], fun k hk hkn => ?_⟩
    have hkb : k ≠ b := by simpa using hkn
    rw [heap_setBlock_other hb4 _ hkb, heap_setBlock_other hb _ hkb]
end Go.Proofs.YtonafcifolddjaaGreatDoor
/- NetRight of the program. -/
namespace Go.Proofs.YtonafcifolddjaaGreatDoor
open Go.RowKit Go.Maps
attribute [local go_sem ↓] Go.wp_at_zero Go.wp_at_succ

set_option maxRecDepth 100000 in
set_option maxHeartbeats 1000000 in
theorem i_net {q : Bool} {l : List RMsg} (hq : netB l = q) (v : Value) (w : World) (hok : ∀ m ∈ l, m.ok) (hv : RMsgSl w w.heap.size v l) :
    Calls Tryz.prog 22 #[v] w fun e w' => e = .returned (.bool q) ∧ Below w.heap.size w w' := by
  have HQ := hide hq
  have HOK := hide hok
  have hlm := hv.lenm
  obtain ⟨ao, cap, rfl, hc, hm, hr⟩ := hv
  have HR := hide hr
  clear hr hq hok
  by_cases h36 : 36 < l.length
  · go_enter Tryz.func22, Tryz.ntmps22
    go_wp2_with fail
    go_ret
    exact ⟨ret_bool (by rw [← HQ.out]; exact net_long h36), Below.refl _ _⟩
  · have hmk : ∀ W : World, (Instr.makeMap 88 none).run Tryz.prog W = .ok (.map (some W.heap.size)) (W.alloc (.map #[] 0)) := fun W => rfl
    go_enter Tryz.func22, Tryz.ntmps22
    go_wp2_with fail
    obtain ⟨W1, hW1⟩ : ∃ W1, W1 = w.alloc (.map #[] 0) := ⟨_, rfl⟩
    have hsz1 : W1.heap.size = w.heap.size + 1 := by rw [hW1]; simp
    have HC0 : Hid (CntAt W1 [] w.heap.size 0) := hide (by rw [hW1]; exact cnt_new w)
    have HB1 : Hid (Below w.heap.size w W1) := hide (by rw [hW1]; exact malloc1 _ _)
    rw [← hW1]
    clear hW1 hmk
    go_loopw [12] (fun i wr => ∃ k : Nat, k ≤ l.length ∧ i = .int .i64 k ∧ CntAt wr (l.take k) w.heap.size k ∧ (∀ j (h : j < l.length), j < k → msgB l[j] = true) ∧ (∀ f t, cntM f t (l.take k) ≤ 3) ∧ Apart W1 wr [w.heap.size]) (fun i _ => l.length - (intOf i).toNat)
    case atStart => exact ⟨0, Nat.zero_le _, rfl, HC0.out, fun j _ h => absurd h (by omega), fun f t => by simp [cntM], (Apart.refl W1).weakN⟩
    case round =>
      obtain ⟨k, hk, rfl, hcnt, hall, hthree, hap⟩ := hrel
      have HCNT := hide hcnt
      have HALL := hide hall
      have H3 := hide hthree
      have HAP := hide hap
      have hsr : w.heap.size + 1 ≤ wr.heap.size := by have := hap.size; omega
      have HW : Hid (Below w.heap.size w wr) := hide (HB1.out.trans (hap.below (by omega) (by simp)))
      clear hcnt hall hthree hap
      by_cases hlt : k < l.length
      · obtain ⟨b, o, rfl, hbB, hrow⟩ := HR.out (by intro h; simp [h] at hlt)
        have hnode := (hrow.get k hlt).carry hbB HW.out
        have hmem : l[k] ∈ l := List.getElem_mem hlt
        have HSU : Hid (∀ f t, cntM f t (l.take (k + 1)) = cntM f t (l.take k) + if isMsg f t l[k] then 1 else 0) := hide (fun f t => cntM_succ f t hlt)
        have HTK : Hid (l.take (k + 1) = l.take k ++ [l[k]]) := hide (List.take_succ_eq_append_getElem hlt)
        obtain ⟨x1, hx1⟩ : ∃ x1, x1 = l[k] := ⟨_, rfl⟩
        have HX1 := hide hx1
        rw [← hx1] at hnode hmem HSU HTK
        have HMEM := hide hmem
        have HOK1 := hide (HOK.out x1 hmem)
        obtain ⟨c0, c1, c2, c3⟩ := hnode
        obtain ⟨p, hp⟩ : ∃ p, msgB x1 = p := ⟨_, rfl⟩
        have HP := hide hp
        obtain ⟨c, hcc⟩ : ∃ c, cntM x1.frm x1.to (l.take k) = c := ⟨_, rfl⟩
        have HCC := hide hcc
        have hcl : c ≤ 3 := by rw [← hcc]; exact H3.out _ _
        clear hx1 hrow hcc hp hmem
        cases p
        · go_wp2_with (go_at_call 24; refine (i_msg (m := x1) HP.out HOK1.out _).mono ?_; rintro e w1 ⟨rfl, hb1⟩; have HB2 : Hid (Below wr.heap.size wr w1) := hide ((malloc1 _ _).trans (hb1.mono (by simp))); clear hb1)
          go_ret
          exact ⟨ret_bool (by rw [← HQ.out]; exact net_msg HMEM.out HP.out), HW.out.trans (HB2.out.mono (by omega))⟩
        · by_cases h3 : c = 3
          all_goals
            go_wp2_with (first
              | (go_at_call 24; refine (i_msg (m := x1) HP.out HOK1.out _).mono ?_; rintro e w1 ⟨rfl, hb1⟩; have HB1' : Hid (Below wr.heap.size wr w1) := hide ((malloc1 _ _).trans (hb1.mono (by simp))); have d0 := (hb1.cell (p := ⟨wr.heap.size, 0, none⟩) (by simp)); have d1 := (hb1.cell (p := ⟨wr.heap.size, 1, none⟩) (by simp)); have d2 := (hb1.cell (p := ⟨wr.heap.size, 2, none⟩) (by simp)); have d3 := (hb1.cell (p := ⟨wr.heap.size, 3, none⟩) (by simp)); simp at d0 d1 d2 d3; have hl1 : wr.heap.size < w1.heap.size := (by have := hb1.size; simp at this; omega); clear hb1)
              | (go_at_call 67; refine (ends_of x1 w1).mono ?_; rintro e w2 ⟨rfl, hb2⟩; have HB2 : Hid (Below wr.heap.size wr w2) := hide (HB1'.out.trans (hb2.mono HB1'.out.size)); have e0 := (hb2.cell (p := ⟨wr.heap.size, 0, none⟩) hl1).trans d0; have e1 := (hb2.cell (p := ⟨wr.heap.size, 1, none⟩) hl1).trans d1; have e2 := (hb2.cell (p := ⟨wr.heap.size, 2, none⟩) hl1).trans d2; have e3 := (hb2.cell (p := ⟨wr.heap.size, 3, none⟩) hl1).trans d3; have hlk := cnt_look (HCNT.out.keep (below_apart HB2.out) (by simp)) HOK1.out.1 HOK1.out.2.1 HCC.out; have hl2 : wr.heap.size < w2.heap.size := Nat.lt_of_lt_of_le hl1 hb2.size; clear hb2)
              | (go_at_call 67; refine (ends_of x1 w2).mono ?_; rintro e w3 ⟨rfl, hb3⟩; have HB3 : Hid (Below wr.heap.size wr w3) := hide (HB2.out.trans (hb3.mono HB2.out.size)); have hlk3 := cnt_look (HCNT.out.keep (below_apart HB3.out) (by simp)) HOK1.out.1 HOK1.out.2.1 HCC.out; clear hb3))
          · go_ret
            exact ⟨ret_bool (by rw [← HQ.out]; exact net_full HMEM.out (by have h1 := HSU.out x1.frm x1.to; have h2 := cntM_take x1.frm x1.to l (k + 1); rw [isMsg_self, HCC.out] at h1; simp at h1; omega)), HW.out.trans (HB2.out.mono (by omega))⟩
          · clear d0 d1 d2 d3 hlk
            go_region_with (go_at_call 67; refine (ends_of x1 _).mono ?_; rintro e w3 ⟨rfl, hb3⟩; have HB3 : Hid (Below wr.heap.size wr w3) := hide (HB2.out.drew.trans (hb3.mono HB2.out.size)); have hlk3 := cnt_look (HCNT.out.keep (below_apart HB3.out) (by simp)) HOK1.out.1 HOK1.out.2.1 HCC.out; obtain ⟨v0, st, W4, W5, hme, hl4, hst, hcn, hap⟩ := cnt_bump (HCNT.out.keep (below_apart HB3.out) (by simp)) HOK1.out (by omega) HCC.out hcl; have HCN := hide hcn; have HAPN := hide hap; clear hb3 hcn hap)
            all_goals
              go_wp2_with fail
              go_roundw
              case rel =>
                refine ⟨k + 1, by omega, by go_num, by rw [HTK.out]; exact HCN.out, fun j hj hjk => ?_, fun f t => ?_, ?_⟩
                · by_cases e : j = k
                  · subst e; rw [← HX1.out]; exact HP.out
                  · exact HALL.out j hj (by omega)
                · have h1 := HSU.out f t
                  have h2 := H3.out f t
                  by_cases e : isMsg f t x1 = true
                  · obtain ⟨rfl, rfl⟩ := isMsg_iff.1 e
                    rw [isMsg_self, HCC.out] at h1
                    simp at h1
                    omega
                  · rw [if_neg e] at h1
                    omega
                · exact ((HAP.out.then HB3.out).trans HAPN.out).sameN
              case measure => simp [intOf]; omega
      · have hkl : k = l.length := by omega
        subst hkl
        go_wp2_with fail
        go_ret
        refine ⟨ret_bool ?_, HW.out⟩
        rw [← HQ.out]
        have h3 := H3.out
        rw [List.take_length] at h3
        refine net_yes (by omega) (fun m hm => ?_) (fun m _ => h3 _ _)
        obtain ⟨j, hj, rfl⟩ := List.getElem_of_mem hm
        exact HALL.out j hj hj
end Go.Proofs.YtonafcifolddjaaGreatDoor
