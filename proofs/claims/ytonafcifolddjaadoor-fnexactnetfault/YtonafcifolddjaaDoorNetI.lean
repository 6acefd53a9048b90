/- NetRight of the program: how many go between two is counted in a map. -/
import Derived.Test.YtonafcifolddjaaDoorNetS
import Derived.Test.YtonafcifolddjaaDoorSep
import Derived.Test.YtonafcifolddjaaDoorTail
import Derived.Maps.OwnSet
import Derived.Maps.OwnOps
import Derived.DeepKeys4
import Derived.Deep.DrawnRows
namespace Go.Proofs.YtonafcifolddjaaDoor
open Go.RowKit Go.Maps
attribute [local go_sem ↓] Go.wp_at_zero Go.wp_at_succ

def endsV (f t : ByteArray) : Value := .agg #[.string f, .string t]
theorem Tryd.laidOutE : laidOutB Tryd.prog = true := by kernel_rfl
theorem Tryd.endsRow : (69 : TypeId) < Tryd.prog.types.size := of_decide_eq_true (by kernel_rfl)
theorem Tryd.endsCells : Tryd.prog.cellsOf 69 = 2 := by kernel_rfl
theorem Tryd.strCellsE : Tryd.prog.cellsOf 9 = 1 := by kernel_rfl
theorem Tryd.endsType : Tryd.prog.keyType 69 = true := by kernel_rfl
theorem ends_keyed : Keyed Tryd.prog 69 := Keyed.of_law (deep_law_laid Tryd.laidOutE (m := 4) (by omega) Tryd.endsRow (by kernel_rfl) (by kernel_rfl))
theorem Tryd.typesTwoE : 2 < Tryd.prog.types.size := of_decide_eq_true (by kernel_rfl)
theorem Tryd.typesManyE : ∃ d, Tryd.prog.types.size + 1 = d + 3 := by
  have h := Tryd.typesTwoE
  generalize Tryd.prog.types.size = n at h
  exact ⟨n - 2, by omega⟩
set_option maxRecDepth 10000 in
theorem ends_key (f t : ByteArray) (hf : f.size ≤ maxLen) (ht : t.size ≤ maxLen) : ∃ kl, keyOf Tryd.prog 69 (endsV f t) = some kl := by
  obtain ⟨d, hd⟩ := Tryd.typesManyE
  have hform : (endsV f t).formed Tryd.prog 69 = true := by
    simp [Value.formed, endsV, Tryd.underlying69, Tryd.endsCells]
  unfold keyOf
  rw [Tryd.underlying69]
  simp only []
  rw [if_pos (by rw [Tryd.endsType, hform]; rfl), hd]
  simp +decide [Program.keyLits, endsV, Value.cells, Tryd.underlying69, Tryd.underlying9, Tryd.endsCells, Tryd.strCellsE, hf, ht]
theorem endsV_inj {f f' t t' : ByteArray} (h : endsV f t = endsV f' t') : f = f' ∧ t = t' := by
  simp [endsV] at h
  exact h
/-- the map counts the messages of l -/
def CntAt (w : World) (l : List RMsg) (b n : Nat) : Prop :=
  ∃ D : DataW Unit, w.ownsMap Tryd.prog 69 (plainElem Tryd.prog 3) b n D ∧ ∀ f t kl, keyOf Tryd.prog 69 (endsV f t) = some kl → D.atKey kl (.lit (.int .i64 0)) = .lit (.int .i64 (cntM f t l : Nat))
theorem cnt_new (w : World) : CntAt (w.alloc (.map #[] 0)) [] w.heap.size 0 :=
  ⟨.map [], World.ownsMap_made w _ _ _, fun f t kl hk => by rfl⟩
theorem CntAt.keep {w w' : World} {ms : List RMsg} {b n : Nat} {l : List Nat} (h : CntAt w ms b n) (ha : Apart w w' l) (hn : b ∉ l) : CntAt w' ms b n := by
  obtain ⟨D, h1, h2⟩ := h
  refine ⟨D, ?_, h2⟩
  obtain ⟨es', clock, he, hr⟩ := h1
  exact ⟨es', clock, (ha.block b (Array.getElem?_eq_some_iff.1 he).1 hn).trans he, hr⟩
theorem cnt_put {w w' : World} {l : List RMsg} {m : RMsg} {b n : Nat} {D : DataW Unit} {kl : Lit} (hown : w.ownsMap Tryd.prog 69 (plainElem Tryd.prog 3) b n D)
    (hD : ∀ f t kl, keyOf Tryd.prog 69 (endsV f t) = some kl → D.atKey kl (.lit (.int .i64 0)) = .lit (.int .i64 (cntM f t l : Nat)))
    (hkey : keyOf Tryd.prog 69 (endsV m.frm m.to) = some kl) (hown' : w'.ownsMap Tryd.prog 69 (plainElem Tryd.prog 3) b (n + 1) (D.put kl (.lit (.int .i64 ((cntM m.frm m.to l : Nat) + 1))))) : CntAt w' (l ++ [m]) b (n + 1) := by
  refine ⟨_, hown', fun f t k' hk' => ?_⟩
  have hmap := hown.isMap
  have hkl := ends_keyed.key hkey
  by_cases he : k' = kl
  · subst he
    obtain ⟨rfl, rfl⟩ := endsV_inj (ends_keyed.inj hk' hkey)
    rw [atKey_put_same hmap hkl, cntM_app, cntM_one, isMsg_self]
    simp
  · rw [atKey_put_other he, hD f t k' hk', cntM_app, cntM_one]
    have : isMsg f t m = false := by
      cases h : isMsg f t m
      · rfl
      · obtain ⟨rfl, rfl⟩ := isMsg_iff.1 h
        rw [hk'] at hkey
        exact absurd (Option.some.inj hkey) he
    rw [this]
    simp
theorem zero_intE (w : World) : (zeroValue 3).run Tryd.prog w = .ok (.int .i64 0) w := Tryd.zeroValue3 w
set_option maxRecDepth 10000 in
theorem cnt_look' {w : World} {l : List RMsg} {b n : Nat} {f t : ByteArray} (h : CntAt w l b n) (hf : f.size ≤ maxLen) (ht : t.size ≤ maxLen) :
    (Instr.lookup 72 (.map (some b)) (endsV f t) false).run Tryd.prog w = .ok (.int .i64 (cntM f t l : Nat)) w := by
  obtain ⟨D, h1, h2⟩ := h
  obtain ⟨kl, hkl⟩ := ends_key f t hf ht
  obtain ⟨c, hrun, hat, -⟩ := h1.lookup_int ends_keyed Tryd.underlying72 Tryd.underlying3 (zero_intE w) hkl
  rw [h2 f t kl hkl] at hat
  injection hat with hat
  injection hat with _ hat
  rw [hat]
  exact hrun
theorem cnt_look {w : World} {l : List RMsg} {b n : Nat} {f t : ByteArray} (h : CntAt w l b n) (hf : f.size ≤ maxLen) (ht : t.size ≤ maxLen) {c : Nat} (hc : cntM f t l = c) :
    (Instr.lookup 72 (.map (some b)) (.agg #[.string f, .string t]) false).run Tryd.prog w = .ok (.int .i64 (c : Nat)) w := by
  subst hc
  have h1 := cnt_look' h hf ht
  unfold endsV at h1
  exact h1
theorem Tryd.infoEnds : (Tryd.prog.info? 69).map (fun i => (i.zero, i.size, i.bytes)) = some (some (.agg #[.string ByteArray.empty, .string ByteArray.empty]), 2, 32) := by kernel_rfl
set_option maxHeartbeats 400000 in
theorem ends_of (m : RMsg) (w : World) : Calls Tryd.prog 55 #[m.val] w fun e w' => e = .returned (.agg #[.string m.frm, .string m.to]) ∧ Below w.heap.size w w' := by
  have hi : (Tryd.prog.info? 69).map (·.size) = some 2 := by
    obtain ⟨i0, hi, _, hz1, _⟩ := info_parts Tryd.infoEnds
    rw [hi]; simp [hz1]
  have HI := hide hi
  clear hi
  unfold RMsg.val
  go_enter Tryd.func55, Tryd.ntmps55
  go_wp2_with fail
  refine bodyPost_ret_by (results_cell_row rfl _ _ (w.heap.size + 1) 69 #[.string m.frm, .string m.to] (0, 0) _ rfl ?_ Tryd.underlying69 rfl HI.out) rfl ⟨rfl, (malloc1 _ _).trans ((malloc1 _ _).mono (by simp))⟩
  rw [mheap_new _ _ _ (by simp)]
theorem Apart.weakN {w w' : World} {l : List Nat} (h : Apart w w' []) : Apart w w' l := ⟨h.os, h.tape, h.output, h.size, fun b hb _ => h.block b hb (by simp)⟩
theorem Apart.sameN {w w' : World} {b : Nat} (h : Apart w w' ([b] ++ [b])) : Apart w w' [b] := ⟨h.os, h.tape, h.output, h.size, fun k hk hn => h.block k hk (by simp at hn; simp [hn])⟩
theorem Apart.cellN {w w' : World} {l : List Nat} (h : Apart w w' l) {b o : Nat} {x : Value} (hc : w.cell? ⟨b, o, none⟩ = some x) (hl : b ∉ l) : w'.cell? ⟨b, o, none⟩ = some x :=
  (World.cell?_of_block (a := ⟨b, o, none⟩) (h.block b (World.block_lt_of_cell? w _ hc) hl)).trans hc
end Go.Proofs.YtonafcifolddjaaDoor
