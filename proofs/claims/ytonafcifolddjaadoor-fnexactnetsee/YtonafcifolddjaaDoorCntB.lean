/- counts[k]++ where the key is handed back by a call. -/
import Derived.Test.YtonafcifolddjaaDoorNetI
import Derived.WideKeyEntry
namespace Go.Proofs.YtonafcifolddjaaDoor
open Go.RowKit Go.Maps Go.ChangeMaps Go.MapKept
open Go.WideElems (Fit entry_then_store)

set_option maxRecDepth 10000 in
theorem ends_law : Go.WideMaps.KeyLaw Tryd.prog 69 := deep_law_laid Tryd.laidOutE (m := 4) (by omega) Tryd.endsRow (by kernel_rfl) (by kernel_rfl)
set_option maxRecDepth 10000 in
theorem cnt_bump {w : World} {l : List RMsg} {b n c : Nat} {m : RMsg} (h : CntAt w l b n) (hok : m.ok) (hn : n < 1000) (hc : cntM m.frm m.to l = c) (hc3 : c ≤ 3) :
    ∃ v0 st W4 W5, (Instr.mapEntry 72 (.map (some b)) (.agg #[.string m.frm, .string m.to])).run Tryd.prog w = .ok (.tuple #[v0, st]) W4 ∧
      (Instr.lookup 72 (.map (some b)) (.agg #[.string m.frm, .string m.to]) false).run Tryd.prog W4 = .ok (.int .i64 (c : Nat)) W4 ∧
      (Instr.entryStore 72 (.map (some b)) st (.int .i64 (IntKind.i64.wrap ((c : Int) + 1)))).run Tryd.prog W4 = .ok () W5 ∧ CntAt W5 (l ++ [m]) b (n + 1) ∧ Apart w W5 [b] := by
  have hwr : IntKind.i64.wrap ((c : Int) + 1) = (c : Int) + 1 := by rw [IntKind.wrap_i64]; omega
  rw [hwr]
  have hl0 := cnt_look h hok.1 hok.2.1 hc
  obtain ⟨kl, hkl⟩ := ends_key m.frm m.to hok.1 hok.2.1
  unfold endsV at hkl
  obtain ⟨D, hown, hD⟩ := h
  have hown0 := hown
  obtain ⟨es, clock, hb, F, hs, rfl⟩ := hown
  obtain ⟨v0, st, es1, clock1, hme, hdj, hst⟩ := entry_then_store ends_law Tryd.underlying72 zero_intE hb F hkl
  have hb4 : (setBlock w b (.map es1 clock1)).heap[b]? = some (.map es1 clock1) := heap_setBlock_same hb _
  obtain ⟨es', clock', hs5, hup⟩ := hst _ (.int .i64 ((c : Int) + 1)) hb4
  refine ⟨v0, _, _, _, hme, ?_, hs5, ?_, ?_⟩
  · obtain ⟨es2, clock2, hs6, hup0⟩ := hst _ (.int .i64 0) hb4
    have hkd : Keyed Tryd.prog 69 := ends_keyed
    rcases hkd.find w hkl es.toList F.keys with ⟨h1, h2⟩ | ⟨j, e0, h1, h2, h3⟩
    · have r1 : (Instr.mapEntry 72 (.map (some b)) (.agg #[.string m.frm, .string m.to])).run Tryd.prog w = .ok (.tuple #[.int .i64 0, goInt clock]) (setBlock w b (.map (es.push ⟨.agg #[.string m.frm, .string m.to], .int .i64 0, clock⟩) (clock + 1))) := by
        simp [Instr.mapEntry, run_underlying Tryd.underlying72, MapKept.run_getObj_map hb, hkd.check w false hkl, h1, MapKept.run_setObj_map _ hb, Result.andThen, setBlock]
      have r2 : (Instr.mapUpdate 72 (.map (some b)) (.agg #[.string m.frm, .string m.to]) (.int .i64 0)).run Tryd.prog w = .ok () (setBlock w b (.map (es.push ⟨.agg #[.string m.frm, .string m.to], .int .i64 0, clock⟩) (clock + 1))) := by
        simp [Instr.mapUpdate, run_underlying Tryd.underlying72, MapKept.run_getObj_map hb, hkd.check w false hkl, h1, MapKept.run_setObj_map _ hb, Result.andThen, setBlock]
      have r3 : (Instr.lookup 72 (.map (some b)) (.agg #[.string m.frm, .string m.to]) false).run Tryd.prog w = .ok (.int .i64 0) w := by
        simp [Instr.lookup, run_underlying Tryd.underlying72, MapKept.run_getObj_map hb, hkd.check w es.isEmpty hkl, h1, Result.andThen]
      have r3' := Result.ok.inj (hl0.symm.trans r3)
      have r3 := (Value.int.inj r3'.1).2
      have hme := (Result.ok.inj (r1.symm.trans hme)).2
      obtain ⟨w', hrun, hown', hgr⟩ := hown0.update ends_keyed Tryd.underlying72 (by unfold maxLen; omega) hkl (plainElem_int (H := Unit) Tryd.underlying3 (a := 0) (by decide))
      have hrun := (Result.ok.inj (r2.symm.trans hrun)).2
      rw [hme] at hrun
      rw [hrun]
      refine cnt_look (l := l) (n := n + 1) ⟨_, hown', fun f t k' hk' => ?_⟩ hok.1 hok.2.1 hc
      by_cases he : k' = kl
      · subst he
        obtain ⟨rfl, rfl⟩ := endsV_inj (ends_keyed.inj hk' (by unfold endsV; exact hkl))
        rw [atKey_put_same hown0.isMap (ends_keyed.key hkl), hc, r3]
      · rw [atKey_put_other he]
        exact hD f t k' hk'
    · have hj : es[j]? = some e0 := by simpa using h2
      have hsame : es.modify j (fun e => { e with key := .agg #[.string m.frm, .string m.to] }) = es := by
        apply Array.ext'
        rw [Array.toList_modify]
        apply List.ext_getElem?
        intro i
        rw [List.getElem?_modify]
        by_cases hi : j = i
        · subst hi
          rw [h2]
          simp [← h3]
        · simp [hi]
      have r1 : (Instr.mapEntry 72 (.map (some b)) (.agg #[.string m.frm, .string m.to])).run Tryd.prog w = .ok (.tuple #[e0.val, goInt e0.born]) (setBlock w b (.map es clock)) := by
        simp [Instr.mapEntry, run_underlying Tryd.underlying72, MapKept.run_getObj_map hb, hkd.check w false hkl, h1, hj, h3, hkd.stays w hkl, hsame, MapKept.run_setObj_map _ hb, Result.andThen, setBlock]
      have hme := (Result.ok.inj (r1.symm.trans hme)).2
      rw [← hme]
      exact cnt_look (l := l) (n := n) ⟨_, ⟨es, clock, heap_setBlock_same hb _, F, hs, rfl⟩, hD⟩ hok.1 hok.2.1 hc
  · obtain ⟨w', hrun, hown', hgr⟩ := hown0.update ends_keyed Tryd.underlying72 (by unfold maxLen; omega) hkl (plainElem_int (H := Unit) Tryd.underlying3 (a := (c : Int) + 1) (by simp [Lit.wf, IntKind.min, IntKind.max, IntKind.signed, IntKind.bits]; omega))
    have hrun := (Result.ok.inj (hup.symm.trans hrun)).2
    have hb' : w'.heap[b]? = some (.map es' clock') := by rw [← hrun]; exact heap_setBlock_same hb _
    have : CntAt w' (l ++ [m]) b (n + 1) := cnt_put hown0 hD hkl (by rw [hc]; exact hown')
    obtain ⟨D2, ⟨es3, clock3, hb3, F3, hs3, rfl⟩, hD3⟩ := this
    rw [hb'] at hb3
    refine ⟨_, ⟨es3, clock3, ?_, F3, hs3, rfl⟩, hD3⟩
    rw [← hb3]
    exact heap_setBlock_same hb4 _
  · refine ⟨rfl, rfl, rfl, by simp [setBlock], fun k hk hkn => ?_⟩
    have hkb : k ≠ b := by simpa using hkn
    rw [heap_setBlock_other hb4 _ hkb, heap_setBlock_other hb _ hkb]
end Go.Proofs.YtonafcifolddjaaDoor
