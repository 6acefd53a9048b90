/- NetSee of the program. -/
import Derived.Test.YtonafcifolddjaaDoorFindI
import Derived.Deep.RegionWith
namespace Go.Proofs.YtonafcifolddjaaDoor
open Go.RowKit
attribute [local go_sem ↓] Go.wp_at_zero Go.wp_at_succ

def pickL (took : Bool) (l : List RMsg) (f t : ByteArray) : List RMsg := match findW l f t, atI f t l with
  | .normal, some k => if took then l.eraseIdx k else l
  | _, _ => []
def pickM (l : List RMsg) (f t : ByteArray) : RMsg := match findW l f t, atI f t l with
  | .normal, some k => l.getD k noMsg
  | _, _ => noMsg
theorem pickL_len (took : Bool) (l : List RMsg) (f t : ByteArray) : (pickL took l f t).length ≤ l.length := by
  unfold pickL
  split
  · split
    · rw [List.length_eraseIdx]; split <;> omega
    · exact Nat.le_refl _
  · exact Nat.zero_le _
theorem pick_no {l : List RMsg} {f t : ByteArray} (took : Bool) (h : findW l f t ≠ .normal) : pickL took l f t = [] ∧ pickM l f t = noMsg := by
  unfold pickL pickM
  generalize findW l f t = y at *
  cases y <;> first | exact absurd rfl h | exact ⟨rfl, rfl⟩
theorem find_fine {l : List RMsg} {f t : ByteArray} (h : findW l f t = .normal) : ∃ k, atI f t l = some k ∧ k < l.length ∧ findN l f t = (k : Int) ∧ netB l = true := by
  have h1 : ¬ (8000 < f.size ∨ 8000 < t.size) := fun e => by rw [findW, if_pos e] at h; cases h
  have h2 : refuseW l (nameB f && nameB t) = .normal := by
    rw [findW, if_neg h1] at h
    generalize refuseW l (nameB f && nameB t) = y at *
    cases y <;> first | rfl | exact h
  obtain ⟨hW, hN⟩ := findN_at h1 h2
  rw [hW, atW] at h
  cases hk : atI f t l with
  | none => rw [hk] at h; cases h
  | some k => exact ⟨k, rfl, atI_lt hk, by rw [hN, atN, hk], (refuse_net h2).2.2⟩
theorem pick_yes {l : List RMsg} {f t : ByteArray} {k : Nat} (took : Bool) (h : findW l f t = .normal) (hk : atI f t l = some k) : pickL took l f t = (if took then l.eraseIdx k else l) ∧ pickM l f t = l.getD k noMsg := by
  unfold pickL pickM
  rw [h, hk]
  exact ⟨rfl, rfl⟩
def outZ : Obj := .cells #[.slice none 0 0, .string ⟨#[]⟩, .string ⟨#[]⟩, .string ⟨#[]⟩, .int .i64 0, .int .i64 0] 30
/-- the result's cells stay till they are written -/
theorem out_cells {w W : World} (h : Below (w.heap.size + 1) (w.alloc outZ) W) :
    (W.cell? ⟨w.heap.size, 0, none⟩ = some (.slice none 0 0) ∧ W.cell? ⟨w.heap.size, 1, none⟩ = some (.string ⟨#[]⟩) ∧ W.cell? ⟨w.heap.size, 2, none⟩ = some (.string ⟨#[]⟩) ∧ W.cell? ⟨w.heap.size, 3, none⟩ = some (.string ⟨#[]⟩) ∧ W.cell? ⟨w.heap.size, 4, none⟩ = some (.int .i64 0) ∧ W.cell? ⟨w.heap.size, 5, none⟩ = some (.int .i64 0)) ∧ (∀ o, W.frozen? ⟨w.heap.size, o, none⟩ = false) ∧ Below w.heap.size w W := by
  unfold outZ at h
  refine ⟨⟨?_, ?_, ?_, ?_, ?_, ?_⟩, fun o => ?_, (malloc1 _ _).trans (h.mono (by simp))⟩
  · exact (h.cell (p := ⟨w.heap.size, 0, none⟩) (by simp)).trans (by simp)
  · exact (h.cell (p := ⟨w.heap.size, 1, none⟩) (by simp)).trans (by simp)
  · exact (h.cell (p := ⟨w.heap.size, 2, none⟩) (by simp)).trans (by simp)
  · exact (h.cell (p := ⟨w.heap.size, 3, none⟩) (by simp)).trans (by simp)
  · exact (h.cell (p := ⟨w.heap.size, 4, none⟩) (by simp)).trans (by simp)
  · exact (h.cell (p := ⟨w.heap.size, 5, none⟩) (by simp)).trans (by simp)
  · exact (h.frozen (p := ⟨w.heap.size, o, none⟩) (by simp)).trans (by simp)
/-- the end of a function that answers so -/
theorem ans_end {w w3 W : World} {sv : Value} {l : List RMsg} {m : RMsg} {c : Int} {B : Nat} (h : Below (w.heap.size + 1) (w.alloc outZ) w3) (hB : w.heap.size < B) (ho : RMsgOwn w3 B sv l) (hW : W = putOut w3 w.heap.size sv m c) :
    (W.cell? ⟨w.heap.size, 0, none⟩ = some sv ∧ W.cell? ⟨w.heap.size, 1, none⟩ = some (.string m.frm) ∧ W.cell? ⟨w.heap.size, 2, none⟩ = some (.string m.to) ∧ W.cell? ⟨w.heap.size, 3, none⟩ = some (.string m.label) ∧ W.cell? ⟨w.heap.size, 4, none⟩ = some (.int .i64 m.sort) ∧ W.cell? ⟨w.heap.size, 5, none⟩ = some (.int .i64 c)) ∧ RMsgOwn W w.heap.size sv l ∧ Below w.heap.size w W := by
  obtain ⟨⟨d0, d1, d2, d3, d4, d5⟩, -, hb⟩ := out_cells h
  rw [hW]
  refine ⟨putOut_at _ _ _ _ _ (fun i hi => ?_), ans_put m c hb (Nat.le_refl _) hB ho⟩
  rcases i with _ | _ | _ | _ | _ | _ | i
  all_goals first | exact ⟨_, d0⟩ | exact ⟨_, d1⟩ | exact ⟨_, d2⟩ | exact ⟨_, d3⟩ | exact ⟨_, d4⟩ | exact ⟨_, d5⟩ | omega
set_option maxRecDepth 100000 in
set_option maxHeartbeats 1000000 in
theorem i_see {E : Errs} (f t : ByteArray) (l : List RMsg) (v : Value) (w : World) (hf : f.size ≤ maxLen) (ht : t.size ≤ maxLen) (hok : ∀ m ∈ l, m.ok ∧ m.fit) (hv : RMsgSl w w.heap.size v l) (hs : SentAt w E) :
    Calls Tryd.prog 19 #[v, .string f, .string t] w fun e w' => NetAns w w' e (pickL false l f t) (pickM l f t) (findW l f t).code := by
  have HS := hide hs
  have HOK := hide (fun m hm => (hok m hm).1)
  have HFIT := hide (fun m hm => (hok m hm).2)
  have HV := hide hv
  have HF := hide hf
  have HT := hide ht
  obtain ⟨ao, cap, rfl, hc, hm, hr⟩ := hv
  have HR := hide hr
  clear hr hs hok
  obtain ⟨y, hy⟩ : ∃ y, findW l f t = y := ⟨_, rfl⟩
  have HY := hide hy
  by_cases hyf : y = .normal
  · subst hyf
    obtain ⟨k, hk, hkl, hkn, hnet⟩ := find_fine hy
    obtain ⟨p1, p2⟩ := pick_yes false hy hk
    rw [p1, p2, hy]
    have h36 := net_len hnet
    obtain ⟨b, o, rfl, hbB, hrow⟩ := HR.out (by intro h; simp [h] at hkl)
    have hnode := hrow.get k hkl
    have HND : Hid (∀ W, Below w.heap.size w W → RMsgAt W b (o + k * 4) l[k]) := hide (fun W hb => hnode.carry hbB hb)
    have HX : Hid (l.getD k noMsg = l[k]) := hide (by rw [List.getD_eq_getElem?_getD, List.getElem?_eq_getElem hkl]; rfl)
    rw [HX.out]
    obtain ⟨x1, hx1⟩ : ∃ x1, x1 = l[k] := ⟨_, rfl⟩
    rw [← hx1] at HND ⊢
    have HFX := hide (HFIT.out x1 (by rw [hx1]; exact List.getElem_mem hkl))
    have HFN := hide hkn
    clear hx1 hnode hrow hnet p1 p2 hk HX hkn hy
    go_enter Tryd.func19, Tryd.ntmps19
    go_wp2_with (go_at_call 37; refine (i_find (E := E) f t l _ _ HF.out HT.out HOK.out ((HV.out.carry (malloc1 _ _)).up (malloc1 _ _).size) (HS.out.carry (malloc1 _ _))).mono ?_; rintro e w1 ⟨he, hb1⟩; rw [HY.out, HFN.out, show whyV E .normal = Value.nilIface from rfl] at he; subst he; have HB1 : Hid (Below (w.heap.size + 1) (w.alloc outZ) w1) := hide (by have := hb1; simpa [outZ] using this); clear hb1)
    have HBW := hide (out_cells HB1.out).2.2
    obtain ⟨c0, c1, c2, c3⟩ := HND.out _ HBW.out
    go_region_with (first
      | (go_at_call 38; refine (own_net l _ _ (by omega) HFIT.out ((HV.out.carry HBW.out.drew).up HBW.out.drew.size)).mono ?_; rintro e w2 ⟨v2, rfl, ho2, hb2⟩; have HO2 := hide ho2; have HB2 : Hid (Below (w.heap.size + 1) (w.alloc outZ) w2) := hide (HB1.out.drew.trans (hb2.mono (by have := HB1.out.size; simp at this; exact this))); have HBW2 : Hid (Below w.heap.size w w2) := hide (HBW.out.drew.trans (hb2.mono HBW.out.drew.size)); obtain ⟨pa, pc, rfl⟩ := owns_shape ho2; obtain ⟨d0, d1, d2, d3⟩ := HND.out _ HBW2.out; clear ho2 hb2)
      | (go_at_call 39; refine (own_msg x1 _ HFX.out).mono ?_; rintro e w3 ⟨rfl, hb3⟩; have HB3 : Hid (Below (w.heap.size + 1) (w.alloc outZ) w3) := hide (HB2.out.trans (hb3.mono (by have := HB2.out.size; simp at this; exact this))); have HO3 := hide (HO2.out.below hb3); obtain ⟨⟨e0, e1, e2, e3, e4, e5⟩, ez, -⟩ := out_cells HB3.out; have z0 := ez 0; have z1 := ez 1; have z2 := ez 2; have z3 := ez 3; have z4 := ez 4; have z5 := ez 5; clear hb3 ez; unfold RMsg.val))
    all_goals
      obtain ⟨W4, hW4⟩ : ∃ W4, W4 = ((((((w3.setCell ⟨w.heap.size, 0, none⟩ (.slice pa l.length pc)).setCell ⟨w.heap.size, 1, none⟩ (.string x1.frm)).setCell ⟨w.heap.size, 2, none⟩ (.string x1.to)).setCell ⟨w.heap.size, 3, none⟩ (.string x1.label)).setCell ⟨w.heap.size, 4, none⟩ (.int .i64 x1.sort)).setCell ⟨w.heap.size, 5, none⟩ (.int .i64 0)) := ⟨_, rfl⟩
      rw [← hW4]
      have hE := ans_end (m := x1) (c := 0) HB3.out (show w.heap.size < w1.heap.size by have := HB1.out.size; simp at this; omega) HO3.out hW4
      obtain ⟨⟨r0, r1, r2, r3, r4, r5⟩, hE1, hE2⟩ := hE
      clear hW4 e0 e1 e2 e3 e4 e5 z0 z1 z2 z3 z4 z5 d0 d1 d2 d3 c0 c1 c2 c3
      go_wp2_with fail
      refine bodyPost_ret_by (v := netV (.slice pa l.length pc) x1 0) ?_ rfl ⟨_, rfl, hE1, hE2⟩
      unfold netV
      unfold results
      go_simp
  · obtain ⟨p1, p2⟩ := pick_no false (show findW l f t ≠ .normal by rw [hy]; exact hyf)
    rw [p1, p2, hy]
    obtain ⟨a, ha⟩ : ∃ a, whyV E y = .iface 92 (.pointer (some a)) := by cases y <;> first | exact absurd rfl hyf | exact ⟨_, rfl⟩
    have HA := hide ha
    have HYF := hide hyf
    obtain ⟨cd, hcd⟩ : ∃ cd, y.code = cd := ⟨_, rfl⟩
    have HCD := hide hcd
    rw [hcd]
    obtain ⟨fn, hfn⟩ : ∃ fn, findN l f t = fn := ⟨_, rfl⟩
    have HFN := hide hfn
    clear p1 p2 ha hcd hfn hy hyf
    go_enter Tryd.func19, Tryd.ntmps19
    go_wp2_with (first
      | (go_at_call 37; refine (i_find (E := E) f t l _ _ HF.out HT.out HOK.out ((HV.out.carry (malloc1 _ _)).up (malloc1 _ _).size) (HS.out.carry (malloc1 _ _))).mono ?_; rintro e w1 ⟨he, hb1⟩; rw [HY.out, HFN.out, HA.out] at he; subst he; have HB1 : Hid (Below (w.heap.size + 1) (w.alloc outZ) w1) := hide (by have := hb1; simpa [outZ] using this); clear hb1)
      | (go_at_call 30; have hno := net_out_why (E := E) y HYF.out none 0 0 w1 (HS.out.carry (out_cells HB1.out).2.2); rw [HA.out, HCD.out] at hno; refine hno.mono ?_; rintro e w2 ⟨v2, rfl, ho2, hb2⟩; have HB2 : Hid (Below (w.heap.size + 1) (w.alloc outZ) w2) := hide (HB1.out.trans (hb2.mono (by have := HB1.out.size; simp at this; exact this))); have HO2 := hide ho2; obtain ⟨pa, pc, rfl⟩ := owns_shape ho2; obtain ⟨⟨e0, e1, e2, e3, e4, e5⟩, ez, -⟩ := out_cells HB2.out; have z0 := ez 0; have z1 := ez 1; have z2 := ez 2; have z3 := ez 3; have z4 := ez 4; have z5 := ez 5; clear hb2 ez ho2 hno; unfold netV noMsg))
    obtain ⟨W4, hW4⟩ : ∃ W4, W4 = ((((((w2.setCell ⟨w.heap.size, 0, none⟩ (.slice pa 0 pc)).setCell ⟨w.heap.size, 1, none⟩ (.string ByteArray.empty)).setCell ⟨w.heap.size, 2, none⟩ (.string ByteArray.empty)).setCell ⟨w.heap.size, 3, none⟩ (.string ByteArray.empty)).setCell ⟨w.heap.size, 4, none⟩ (.int .i64 0)).setCell ⟨w.heap.size, 5, none⟩ (.int .i64 cd)) := ⟨_, rfl⟩
    rw [← hW4]
    have hE := ans_end (m := noMsg) (c := cd) HB2.out (show w.heap.size < w1.heap.size by have := HB1.out.size; simp at this; omega) HO2.out hW4
    obtain ⟨⟨r0, r1, r2, r3, r4, r5⟩, hE1, hE2⟩ := hE
    clear hW4 e0 e1 e2 e3 e4 e5 z0 z1 z2 z3 z4 z5
    refine bodyPost_ret_by (v := netV (.slice pa 0 pc) noMsg cd) ?_ rfl ⟨_, rfl, hE1, hE2⟩
    unfold netV noMsg
    unfold noMsg at r1 r2 r3 r4
    simp only [List.length_nil] at r0 r1 r2 r3 r4
    unfold results
    go_simp
end Go.Proofs.YtonafcifolddjaaDoor
