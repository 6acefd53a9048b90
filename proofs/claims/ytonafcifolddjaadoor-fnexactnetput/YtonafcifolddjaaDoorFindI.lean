/- find: where the first message between two is, or why not. -/
import Derived.Test.YtonafcifolddjaaDoorFirstI
namespace Go.Proofs.YtonafcifolddjaaDoor
open Go.RowKit
attribute [local go_sem ↓] Go.wp_at_zero Go.wp_at_succ

def findW (l : List RMsg) (f t : ByteArray) : Why := if 8000 < f.size ∨ 8000 < t.size then .wrapped else match refuseW l (nameB f && nameB t) with
  | .normal => atW f t l
  | y => y
def findN (l : List RMsg) (f t : ByteArray) : Int := match findW l f t with
  | .normal => atN f t l
  | _ => -1
theorem findN_at {l : List RMsg} {f t : ByteArray} (h1 : ¬ (8000 < f.size ∨ 8000 < t.size)) (h2 : refuseW l (nameB f && nameB t) = .normal) : findW l f t = atW f t l ∧ findN l f t = atN f t l := by
  have hW : findW l f t = atW f t l := by rw [findW, if_neg h1, h2]
  refine ⟨hW, ?_⟩
  rw [findN, hW, atW, atN]
  cases h : atI f t l <;> rfl
theorem refuse_net {l : List RMsg} {o : Bool} (h : refuseW l o = .normal) : l.length ≤ 400 ∧ o = true ∧ netB l = true := by
  unfold refuseW at h
  split at h
  · cases h
  · rename_i h4
    split at h
    · rename_i h5
      simp only [Bool.and_eq_true] at h5
      exact ⟨by omega, h5.1, h5.2⟩
    · cases h
set_option maxRecDepth 100000 in
set_option maxHeartbeats 1000000 in
theorem i_find {E : Errs} (f t : ByteArray) (l : List RMsg) (v : Value) (w : World) (hf : f.size ≤ maxLen) (ht : t.size ≤ maxLen) (hok : ∀ m ∈ l, m.ok) (hv : RMsgSl w w.heap.size v l) (hs : SentAt w E) :
    Calls Tryd.prog 37 #[v, .string f, .string t] w fun e w' => e = .returned (.tuple #[.int .i64 (findN l f t), whyV E (findW l f t)]) ∧ Below w.heap.size w w' := by
  have HS := hide hs
  have HOK := hide hok
  have HV := hide hv
  have HF := hide hf
  have HT := hide ht
  have gL := hs.gL
  obtain ⟨ao, cap, rfl, hc, hm, hr⟩ := hv
  clear hr hs hok
  unfold maxLen at hf ht
  by_cases h8 : 8000 < f.size ∨ 8000 < t.size
  · have HR : Hid (findW l f t = .wrapped ∧ findN l f t = -1) := hide (by
      have : findW l f t = .wrapped := by rw [findW, if_pos h8]
      exact ⟨this, by rw [findN, this]⟩)
    by_cases h8f : 8000 < f.size
    · clear h8
      go_enter Tryd.func37, Tryd.ntmps37
      go_wp2_with fail
      go_region_with fail
      all_goals
        go_wp2_with fail
        refine bodyPost_ret_by (v := .tuple #[.int .i64 (-1), .iface 92 (.pointer (some E.aL))]) ?_ rfl ⟨by rw [HR.out.1, HR.out.2]; rfl, (Below.refl _ _).drew⟩
        unfold results
        go_simp
    · have h8t : 8000 < t.size := by omega
      clear h8
      go_enter Tryd.func37, Tryd.ntmps37
      go_wp2_with fail
      go_region_with fail
      all_goals
        go_wp2_with fail
        refine bodyPost_ret_by (v := .tuple #[.int .i64 (-1), .iface 92 (.pointer (some E.aL))]) ?_ rfl ⟨by rw [HR.out.1, HR.out.2]; rfl, (Below.refl _ _).drew⟩
        unfold results
        go_simp
  · obtain ⟨qf, hqf⟩ : ∃ q, nameB f = q := ⟨_, rfl⟩
    obtain ⟨qt, hqt⟩ : ∃ q, nameB t = q := ⟨_, rfl⟩
    obtain ⟨y, hy⟩ : ∃ y, refuseW l (qf && qt) = y := ⟨_, rfl⟩
    have HQF := hide hqf
    have HQT := hide hqt
    have HY := hide hy
    have HFI : Hid (y = .normal → findW l f t = atW f t l ∧ findN l f t = atN f t l) := hide (fun e => findN_at h8 (by rw [hqf, hqt, hy, e]))
    have HNO : Hid (y ≠ .normal → findW l f t = y ∧ findN l f t = -1) := hide (fun e => by
      have : findW l f t = y := by
        rw [findW, if_neg h8, hqf, hqt, hy]
        cases y <;> first | exact absurd rfl e | rfl
      refine ⟨this, ?_⟩
      rw [findN, this]
      cases y <;> first | exact absurd rfl e | rfl)
    have h8f : ¬ 8000 < f.size := by omega
    have h8t : ¬ 8000 < t.size := by omega
    clear hqf hqt hy h8
    by_cases hyf : y = .normal
    · subst hyf
      obtain ⟨hl4, hqq, -⟩ := refuse_net HY.out
      obtain ⟨rfl, rfl⟩ : qf = true ∧ qt = true := by simpa using hqq
      have HFI' := hide (HFI.out rfl)
      clear HNO HFI hqq
      go_enter Tryd.func37, Tryd.ntmps37
      go_wp2_with (first
        | (go_at_call_of 51 f; refine (in_name HQF.out HF.out _).mono ?_; rintro e w' ⟨rfl, rfl⟩)
        | (go_at_call_of 51 t; refine (in_name HQT.out HT.out _).mono ?_; rintro e w' ⟨rfl, rfl⟩)
        | (go_at_call 28; refine (i_refuse (E := E) HY.out _ _ HOK.out HV.out HS.out).mono ?_; rintro e w1 ⟨he, hb1⟩; rw [show whyV E .normal = Value.nilIface from rfl] at he; subst he; have HB1 := hide hb1; clear hb1)
        | (go_at_call 54; refine (first_of (E := E) f t l _ _ (by omega) ((HV.out.carry HB1.out).up HB1.out.size) (HS.out.carry HB1.out)).mono ?_; rintro e w2 ⟨rfl, hb2⟩; have HB2 := hide (HB1.out.trans (hb2.mono HB1.out.size)); clear hb2))
      refine bodyPost_ret_by (v := .tuple #[.int .i64 (atN f t l), whyV E (atW f t l)]) ?_ rfl ⟨by rw [HFI'.out.1, HFI'.out.2], HB2.out⟩
      unfold results
      go_simp
    · have HNO' := hide (HNO.out hyf)
      obtain ⟨a, ha⟩ : ∃ a, whyV E y = .iface 92 (.pointer (some a)) := by cases y <;> first | exact absurd rfl hyf | exact ⟨_, rfl⟩
      have HA := hide ha
      clear HNO HFI ha
      cases qf
      · go_enter Tryd.func37, Tryd.ntmps37
        go_wp2_with (first
          | (go_at_call_of 51 f; refine (in_name HQF.out HF.out _).mono ?_; rintro e w' ⟨rfl, rfl⟩)
          | (go_at_call 28; refine (i_refuse (E := E) HY.out _ _ HOK.out HV.out HS.out).mono ?_; rintro e w1 ⟨he, hb1⟩; rw [HA.out] at he; subst he; have HB1 := hide hb1; clear hb1))
        refine bodyPost_ret_by (v := .tuple #[.int .i64 (-1), .iface 92 (.pointer (some a))]) ?_ rfl ⟨by rw [HNO'.out.1, HNO'.out.2, HA.out], HB1.out⟩
        unfold results
        go_simp
      · go_enter Tryd.func37, Tryd.ntmps37
        go_wp2_with (first
          | (go_at_call_of 51 f; refine (in_name HQF.out HF.out _).mono ?_; rintro e w' ⟨rfl, rfl⟩)
          | (go_at_call_of 51 t; refine (in_name HQT.out HT.out _).mono ?_; rintro e w' ⟨rfl, rfl⟩)
          | (go_at_call 28; refine (i_refuse (E := E) HY.out _ _ HOK.out HV.out HS.out).mono ?_; rintro e w1 ⟨he, hb1⟩; rw [HA.out] at he; subst he; have HB1 := hide hb1; clear hb1))
        refine bodyPost_ret_by (v := .tuple #[.int .i64 (-1), .iface 92 (.pointer (some a))]) ?_ rfl ⟨by rw [HNO'.out.1, HNO'.out.2, HA.out], HB1.out⟩
        unfold results
        go_simp
end Go.Proofs.YtonafcifolddjaaDoor
