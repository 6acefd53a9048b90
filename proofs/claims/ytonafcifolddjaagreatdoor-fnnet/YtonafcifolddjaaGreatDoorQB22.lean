/- NetBytes of the specification. -/
import Derived.Test.YtonafcifolddjaaGreatDoorQB20
import Derived.Deep.DrawnRows
import Derived.Test.YtonafcifolddjaaGreatDoorQB21
import Derived.Test.YtonafcifolddjaaGreatDoorQB19
namespace Go.Proofs.YtonafcifolddjaaGreatDoor
open Go.RowKit
attribute [local go_sem ↓] Go.wp_at_zero Go.wp_at_succ

set_option maxRecDepth 100000 in
set_option maxHeartbeats 1000000 in
theorem s_netBytes (l : List RMsg) (v : Value) (w : World) (hok : ∀ m ∈ l, m.ok) (hv : RMsgSl w w.heap.size v l) :
    Calls Tryz.prog 20 #[v] w fun e w' => e = .returned (.string (netS l)) ∧ Below w.heap.size w w' := by
  have HOK := hide hok
  have HV := hide hv
  have hlm := hv.lenm
  obtain ⟨ao, cap, rfl, hc, hm, hr⟩ := hv
  have HR := hide hr
  obtain ⟨q, hq⟩ : ∃ q, netB l = q := ⟨_, rfl⟩
  have HQ := hide hq
  have HRES : Hid (netS l = if q then bytesN l else ByteArray.empty) := hide (by rw [netS, hq])
  clear hr hok hq
  by_cases h4 : 400 < l.length
  · have hqf : q = false := by rw [← HQ.out]; exact net_long (by omega)
    subst hqf
    go_enter Tryz.func20, Tryz.ntmps20
    go_wp2_with fail
    go_ret
    exact ⟨ret_str HRES.out, Below.refl _ _⟩
  · cases q
    · go_enter Tryz.func20, Tryz.ntmps20
      go_wp2_with (go_at_call 23; refine (s_net HQ.out _ _ HOK.out HV.out).mono ?_; rintro e w1 ⟨rfl, hb1⟩; have HB1 := hide hb1; clear hb1)
      go_ret
      exact ⟨ret_str HRES.out, HB1.out⟩
    · have h36 := net_len HQ.out
      have HTOT : Hid (∀ k, k ≤ l.length → (joinS (partsN l k)).size ≤ 4440) := hide (fun k hk => by rw [joinS_size]; exact partsN_tot HQ.out hk)
      go_enter Tryz.func20, Tryz.ntmps20
      go_wp2_with (first
        | (go_at_call 23; refine (s_net HQ.out _ _ HOK.out HV.out).mono ?_; rintro e w1 ⟨rfl, hb1⟩; have HB1 := hide hb1; clear hb1)
        | (go_at_call 60; refine (sp_put rfl _ ⟨by omega, by omega⟩).mono ?_; rintro e w2 ⟨rfl, hb2⟩; have HB2 := hide (HB1.out.trans (hb2.mono HB1.out.size)); clear hb2))
      go_loopw [3, 4] (fun tv i wr => ∃ k : Nat, k ≤ l.length ∧ i = .int .i64 k ∧ tv = .string (joinS (partsN l k)) ∧ Below w.heap.size w wr) (fun _ i _ => l.length - (intOf i).toNat)
      case atStart => exact ⟨0, Nat.zero_le _, rfl, by simp only [partsN, List.take_zero, List.map_nil]; rw [joinS_one], HB2.out⟩
      case round =>
        obtain ⟨k, hk, rfl, rfl, hbel⟩ := hrel
        have HBEL := hide hbel
        have hacs := HTOT.out k hk
        clear hbel
        by_cases hlt : k < l.length
        · obtain ⟨b, o, rfl, hbB, hrow⟩ := HR.out (by intro h; simp [h] at hlt)
          have hnode := (hrow.get k hlt).carry hbB HBEL.out
          obtain ⟨x1, hx1⟩ : ∃ x1, x1 = l[k] := ⟨_, rfl⟩
          have hmem : x1 ∈ l := by rw [hx1]; exact List.getElem_mem hlt
          rw [← hx1] at hnode
          obtain ⟨d0, d1, d2, d3⟩ := hnode
          have hmr := (net_right HQ.out x1 hmem).1
          obtain ⟨n1, n2, n3, n4, n5⟩ := msg_name hmr
          have HSO := hide (show -9223372036854775808 ≤ x1.sort ∧ x1.sort ≤ 9223372036854775807 from ⟨by omega, by omega⟩)
          have hz := msgP_size hmr
          obtain ⟨s1, hs1⟩ : ∃ s, textS x1.frm = s := ⟨_, rfl⟩
          obtain ⟨s2, hs2⟩ : ∃ s, textS x1.to = s := ⟨_, rfl⟩
          obtain ⟨s3, hs3⟩ : ∃ s, textS x1.label = s := ⟨_, rfl⟩
          obtain ⟨s4, hs4⟩ : ∃ s, putS x1.sort = s := ⟨_, rfl⟩
          have hz1 : s1.size ≤ 30 := by rw [← hs1]; exact textS_size _ (name_short n1)
          have hz2 : s2.size ≤ 30 := by rw [← hs2]; exact textS_size _ (name_short n2)
          have hz3 : s3.size ≤ 30 := by rw [← hs3]; exact textS_size _ (name_short n3)
          have hz4 : s4.size ≤ 10 := by rw [← hs4]; exact putS_size _
          have hP : msgP x1 = s1 ++ s2 ++ s3 ++ s4 := by rw [msgP, join_four, hs1, hs2, hs3, hs4]
          obtain ⟨s5, hs5⟩ : ∃ s, sealS (s1 ++ s2 ++ s3 ++ s4) = s := ⟨_, rfl⟩
          obtain ⟨s6, hs6⟩ : ∃ s, textS s5 = s := ⟨_, rfl⟩
          have hz5 : s5.size ≤ 104 := by rw [← hs5, ← hP, seal_size (by omega)]; omega
          have hz6 : s6.size ≤ 120 := by rw [← hs6]; have := textS_more (s := s5) (by omega); omega
          have HNX : Hid (joinS (partsN l (k + 1)) = joinS (partsN l k) ++ s6) := hide (by rw [partsN_succ hlt, joinS_app, ← hx1, joinS_one, msgW, hP, hs5, hs6])
          have HS1 := hide hs1
          have HS2 := hide hs2
          have HS3 := hide hs3
          have HS4 := hide hs4
          have HS5 := hide hs5
          have HS6 := hide hs6
          have HL1 := hide (show x1.frm.size ≤ maxLen by have := name_short n1; unfold maxLen; omega)
          have HL2 := hide (show x1.to.size ≤ maxLen by have := name_short n2; unfold maxLen; omega)
          have HL3 := hide (show x1.label.size ≤ maxLen by have := name_short n3; unfold maxLen; omega)
          have HL5 := hide (show (s1 ++ s2 ++ s3 ++ s4).size ≤ maxLen by rw [← hP]; unfold maxLen; omega)
          have HL6 := hide (show s5.size ≤ maxLen by unfold maxLen; omega)
          obtain ⟨acc, hacc⟩ : ∃ acc, joinS (partsN l k) = acc := ⟨_, rfl⟩
          rw [hacc] at hacs ⊢
          have HACC := hide hacc
          have hq1 : ¬ 9223372036854775807 < s1.size + s2.size := by omega
          have hq2 : ¬ 9223372036854775807 < s1.size + s2.size + s3.size := by omega
          have hq3 : ¬ 9223372036854775807 < s1.size + s2.size + s3.size + s4.size := by omega
          have hq4 : ¬ 9223372036854775807 < acc.size + s6.size := by omega
          clear hx1 hrow hmem hs1 hs2 hs3 hs4 hs5 hs6 hacc n1 n2 n3 n4 n5 hmr hz hP
          go_wp2_with fail
          refine wp_region_grown (by kernel_rfl) (by kernel_rfl) (fun W hW => ?_)
          have hne := grown_some W
          have k0 := grown_cell (w := W) (by rw [hW]; exact d0)
          have k1 := grown_cell (w := W) (by rw [hW]; exact d1)
          have k2 := grown_cell (w := W) (by rw [hW]; exact d2)
          have k3 := grown_cell (w := W) (by rw [hW]; exact d3)
          have HWE := hide hW
          clear hW
          repeat (go_big_quiet_step (first
            | (go_at_call_of 61 x1.frm; exact grown_more (sp_text HS1.out _ HL1.out))
            | (go_at_call_of 61 x1.to; exact grown_more (sp_text HS2.out _ HL2.out))
            | (go_at_call_of 61 x1.label; exact grown_more (sp_text HS3.out _ HL3.out))
            | (go_at_call_of 61 s5; exact grown_more (sp_text HS6.out _ HL6.out))
            | (go_at_call 60; exact grown_more (sp_put HS4.out _ HSO.out))
            | (go_at_call 62; exact grown_more (sp_seal HS5.out _ HL5.out))))
          refine wpQuiet_nil ?_
          intro w3 hw3
          have HB3 : Hid (Below wr.heap.size wr w3) := hide (by rw [HWE.out] at hw3; exact hw3)
          clear hw3 hne k0 k1 k2 k3 HWE
          go_wp2_with fail
          go_roundw
          case rel => exact ⟨k + 1, hlt, by go_num, by rw [HNX.out, HACC.out], HBEL.out.trans (HB3.out.mono HBEL.out.size)⟩
          case measure => simp [intOf]; omega
        · have HK : Hid (k = l.length) := hide (by omega)
          go_wp2_with fail
          go_ret
          exact ⟨ret_str (by rw [HRES.out, HK.out]; rfl), HBEL.out⟩
end Go.Proofs.YtonafcifolddjaaGreatDoor
/- What is read, up to a place: pure. -/
namespace Go.Proofs.YtonafcifolddjaaGreatDoor
open Go.RowKit

theorem uTo_digit (s : ByteArray) (a i : Nat) : ∀ d, uTo s a (i + d + 1) / 128 ^ i % 128 = bAt s (a + i) % 128
  | 0 => by
    rw [Nat.add_zero, uTo, Nat.add_mul_div_right _ _ (Nat.pow_pos (by omega)), Nat.div_eq_of_lt (uTo_lt s a i), Nat.zero_add, Nat.mod_mod]
  | d + 1 => by
    have ih := uTo_digit s a i d
    rw [show i + (d + 1) + 1 = (i + d + 1) + 1 by omega, uTo, show (128 : Nat) ^ (i + d + 1) = 128 ^ (d + 1) * 128 ^ i by rw [← Nat.pow_add]; congr 1; omega, ← Nat.mul_assoc, Nat.add_mul_div_right _ _ (Nat.pow_pos (by omega)), show (128 : Nat) ^ (d + 1) = 128 ^ d * 128 from Nat.pow_succ .., ← Nat.mul_assoc, Nat.add_mul_mod_self_right]
    exact ih
theorem uTo_top (s : ByteArray) (a k : Nat) : uTo s a (k + 1) / 128 ^ k = bAt s (a + k) % 128 := by
  rw [uTo, Nat.add_mul_div_right _ _ (Nat.pow_pos (by omega)), Nat.div_eq_of_lt (uTo_lt s a k), Nat.zero_add]
theorem fold_unfold (u : Nat) : foldN (unfoldZ u) = u := by
  unfold foldN unfoldZ
  split <;> split <;> omega
structure NumAt (s : ByteArray) (a k : Nat) : Prop where
  k9 : k ≤ 9
  inside : a + k < s.size
  high : ∀ i, i < k → 128 ≤ bAt s (a + i)
  low : bAt s (a + k) < 128
  full : 0 < k → bAt s (a + k) ≠ 0
  top : ¬ (k = 9 ∧ 1 < bAt s (a + k))
theorem getR_good (s : ByteArray) (a : Nat) : ∀ f k, f + k = 10 → (∀ i, i < k → 128 ≤ bAt s (a + i)) → (getR s a f k).2.2 = 0 → ∃ j, NumAt s a j ∧ getR s a f k = (unfoldZ (uTo s a (j + 1)), ((a + j + 1 : Nat) : Int), 0)
  | 0, k, _, _, h => by simp [getR] at h
  | f + 1, k, hf, hh, h => by
    rw [getR] at h ⊢
    split at h
    · simp at h
    · rename_i h1
      rw [if_neg h1]
      split at h
      · simp at h
      · rename_i h2
        rw [if_neg h2]
        split at h
        · rename_i h3
          rw [if_pos h3]
          split at h
          · simp at h
          · rename_i h4
            rw [if_neg h4]
            exact ⟨k, ⟨by omega, by omega, hh, h3, fun hk hz => h4 ⟨hz, hk⟩, h2⟩, rfl⟩
        · rename_i h3
          rw [if_neg h3]
          exact getR_good s a f (k + 1) (by omega) (fun i hi => by
            by_cases hik : i < k
            · exact hh i hik
            · obtain rfl : i = k := by omega
              omega) h
theorem ofNat_bAt {s : ByteArray} {i : Nat} (h : i < s.size) : UInt8.ofNat (bAt s i) = s[i] := by
  rw [bAt_lt h]; simp
theorem NumAt.bytes {s : ByteArray} {a k : Nat} (h : NumAt s a k) : s.data.toList.take (a + k + 1) = s.data.toList.take a ++ putL (uTo s a (k + 1)) := by
  have hu : ∀ i, i < k → 128 ≤ uTo s a (k + 1) / 128 ^ i := fun i hi => by
    have h1 : uTo s a (k + 1) ≥ 128 ^ k := by
      have h2 := uTo_top s a k
      have h3 := h.full (by omega)
      have h4 : 1 ≤ uTo s a (k + 1) / 128 ^ k := by rw [h2, Nat.mod_eq_of_lt h.low]; omega
      have := (Nat.le_div_iff_mul_le (Nat.pow_pos (by omega))).1 h4
      omega
    rw [Nat.le_div_iff_mul_le (Nat.pow_pos (by omega))]
    have h5 : (128 : Nat) ^ (i + 1) ≤ 128 ^ k := Nat.pow_le_pow_right (by omega) hi
    rw [Nat.pow_succ] at h5
    omega
  have hl : uTo s a (k + 1) / 128 ^ k < 128 := by rw [uTo_top]; omega
  have hsz : s.data.toList.length = s.size := by simp
  have hin := h.inside
  rw [putL_eq h.k9 hu hl]
  apply List.ext_getElem?
  intro j
  by_cases hja : j < a
  · rw [List.getElem?_append_left (by simp; omega), List.getElem?_take_of_lt (by omega), List.getElem?_take_of_lt hja]
  · rw [List.getElem?_append_right (by simp; omega)]
    have hlen : (s.data.toList.take a).length = a := by simp; omega
    rw [hlen]
    by_cases hjk : j < a + k
    · rw [List.getElem?_take_of_lt (by omega), putK_lt (by omega)]
      have hjs : j < s.size := by omega
      obtain ⟨i, rfl⟩ : ∃ i, j = a + i := ⟨j - a, by omega⟩
      have hd := uTo_digit s a i (k - i)
      rw [show i + (k - i) + 1 = k + 1 by omega] at hd
      have hb := h.high i (by omega)
      have hc := bAt_256 s (a + i)
      rw [Nat.add_sub_cancel_left, dig, hd, show bAt s (a + i) % 128 + 128 = bAt s (a + i) by omega, ofNat_bAt hjs, List.getElem?_eq_getElem (by simpa using hjs)]
      rfl
    · by_cases hje : j = a + k
      · subst hje
        rw [List.getElem?_take_of_lt (by omega), Nat.add_sub_cancel_left, putK_last, lastB, uTo_top, Nat.mod_eq_of_lt h.low, ofNat_bAt hin, List.getElem?_eq_getElem (by simpa using hin)]
        rfl
      · rw [List.getElem?_take_eq_none (by omega), List.getElem?_eq_none (by rw [putK_length]; omega)]

def gN (t : ByteArray) (a : Int) : Option (Int × Int) := if (getN t a).2.2 = 0 then some ((getN t a).1, (getN t a).2.1) else none
def gT (t : ByteArray) (a : Int) : Option (ByteArray × Int) := if (getT t a).2.2 = 0 then some ((getT t a).1, (getT t a).2.1) else none
def bL (t : ByteArray) : List UInt8 := t.data.toList
structure Goes (t : ByteArray) (a b : Int) (l : List UInt8) : Prop where
  lo : 0 ≤ a
  hi : b ≤ (t.size : Int)
  le : a ≤ b
  eq : (bL t).take b.toNat = (bL t).take a.toNat ++ l
theorem Goes.trans {t : ByteArray} {a b c : Int} {l l' : List UInt8} (h : Goes t a b l) (h' : Goes t b c l') : Goes t a c (l ++ l') :=
  ⟨h.lo, h'.hi, Int.le_trans h.le h'.le, by rw [h'.eq, h.eq, List.append_assoc]⟩
theorem gN_goes {t : ByteArray} {a b n : Int} (h : gN t a = some (n, b)) : Goes t a b (bL (putS n)) ∧ (-9223372036854775808 ≤ n ∧ n ≤ 9223372036854775807) ∧ t.size ≤ 8000 := by
  unfold gN at h
  split at h
  · rename_i h0
    simp at h
    obtain ⟨rfl, rfl⟩ := h
    unfold getN at h0 ⊢
    split at h0
    · simp at h0
    · rename_i h1
      rw [if_neg h1]
      split at h0
      · simp at h0
      · rename_i h2
        rw [if_neg h2]
        obtain ⟨j, hj, he⟩ := getR_good t a.toNat 10 0 rfl (fun i hi => by omega) h0
        rw [he]
        have hb := hj.bytes
        have hin := hj.inside
        have hu := uTo_u64 hj.k9 hj.top
        refine ⟨⟨by omega, by simp only; omega, by simp only; omega, ?_⟩, ?_, by omega⟩
        · simp only [bL]
          rw [Int.toNat_natCast, hb, putS_data, fold_unfold]
        · simp only
          unfold unfoldZ U64b at *
          split <;> omega
  · cases h
theorem gT_goes {t : ByteArray} {a b : Int} {x : ByteArray} (h : gT t a = some (x, b)) : Goes t a b (bL (textS x)) ∧ x.size ≤ 8000 := by
  unfold gT at h
  split at h
  · rename_i h0
    simp at h
    obtain ⟨rfl, rfl⟩ := h
    unfold getT at h0 ⊢
    split at h0
    · rename_i h1; simp at h0; exact absurd h0 h1
    · rename_i h1
      rw [if_neg h1]
      split at h0
      · simp at h0
      · rename_i h2
        rw [if_neg h2]
        split at h0
        · simp at h0
        · rename_i h3
          rw [if_neg h3]
          have hn : gN t a = some ((getN t a).1, (getN t a).2.1) := by unfold gN; rw [if_pos (by simpa using h1)]
          obtain ⟨hg, -, h8⟩ := gN_goes hn
          generalize (getN t a).1 = n at *
          generalize (getN t a).2.1 = p at *
          have hp0 : 0 ≤ p := Int.le_trans hg.lo hg.le
          have hsz : (t.extract p.toNat (p.toNat + n.toNat)).size = n.toNat := by rw [ByteArray.size_extract]; omega
          refine ⟨⟨hg.lo, by simp only; omega, by have := hg.le; simp only; omega, ?_⟩, by simp only; omega⟩
          simp only
          have ht : bL (textS (t.extract p.toNat (p.toNat + n.toNat))) = putL (foldN n) ++ ((bL t).drop p.toNat).take n.toNat := by
            unfold bL
            rw [text_data (by omega), hsz, show ((n.toNat : Nat) : Int) = n by omega, Lib.extract_data, Nat.add_sub_cancel_left]
          have he := hg.eq
          rw [show bL (putS n) = putL (foldN n) from rfl] at he
          rw [ht, ← List.append_assoc, ← he, show (p + n).toNat = p.toNat + n.toNat by omega, List.take_add]
  · cases h

def gCnt (t : ByteArray) (a most : Int) : Option (Nat × Int) := (gN t a).bind fun r => if 0 ≤ r.1 ∧ r.1 ≤ most then some (r.1.toNat, r.2) else none
def gRow {α : Type} (f : Int → Option (α × Int)) (a : Int) : Nat → Option (List α × Int)
  | 0 => some ([], a)
  | k + 1 => (gRow f a k).bind fun r => (f r.2).bind fun x => some (r.1 ++ [x.1], x.2)
theorem gRow_none {α : Type} {f : Int → Option (α × Int)} {a : Int} {k : Nat} (h : gRow f a k = none) : ∀ d, gRow f a (k + d) = none
  | 0 => h
  | d + 1 => by rw [show k + (d + 1) = (k + d) + 1 by omega, gRow, gRow_none h d]; rfl
theorem gCnt_goes {t : ByteArray} {a b most : Int} {n : Nat} (h : gCnt t a most = some (n, b)) : Goes t a b (bL (putS (n : Int))) ∧ (n : Int) ≤ most := by
  simp only [gCnt, Option.bind_eq_some_iff, Prod.exists] at h
  obtain ⟨z, p, h1, h2⟩ := h
  split at h2
  · rename_i hz
    simp at h2
    obtain ⟨rfl, rfl⟩ := h2
    have := (gN_goes h1).1
    rw [show ((z.toNat : Nat) : Int) = z by omega]
    exact ⟨this, hz.2⟩
  · cases h2
theorem gRow_goes {α : Type} {t : ByteArray} {f : Int → Option (α × Int)} {pt : α → List UInt8} {ok : α → Prop} (hf : ∀ a b x, f a = some (x, b) → Goes t a b (pt x) ∧ ok x) {a : Int} (h0 : 0 ≤ a) (h1 : a ≤ (t.size : Int)) : ∀ (k : Nat) {l : List α} {b : Int}, gRow f a k = some (l, b) → l.length = k ∧ Goes t a b (l.flatMap pt) ∧ ∀ x ∈ l, ok x
  | 0, l, b, h => by
    simp [gRow] at h
    obtain ⟨rfl, rfl⟩ := h
    exact ⟨rfl, ⟨h0, h1, Int.le_refl _, by simp⟩, fun x hx => by cases hx⟩
  | k + 1, l, b, h => by
    simp only [gRow, Option.bind_eq_some_iff, Prod.exists] at h
    obtain ⟨l1, b1, g1, x, b2, g2, g3⟩ := h
    simp at g3
    obtain ⟨rfl, rfl⟩ := g3
    obtain ⟨i1, i2, i3⟩ := gRow_goes hf h0 h1 k g1
    obtain ⟨j1, j2⟩ := hf _ _ _ g2
    refine ⟨by simp [i1], by simpa using i2.trans j1, fun y hy => ?_⟩
    rcases List.mem_append.1 hy with hy | hy
    · exact i3 y hy
    · simp at hy; subst hy; exact j2
theorem bL_join (l : List ByteArray) : bL (joinS l) = l.flatMap bL := by
  simp only [bL, joinS, flatTo, List.take_length]
  rfl
end Go.Proofs.YtonafcifolddjaaGreatDoor
