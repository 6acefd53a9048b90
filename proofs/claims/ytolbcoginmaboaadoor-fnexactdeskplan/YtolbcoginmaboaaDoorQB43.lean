/- marksOf of the program. -/
import Derived.Test.YtolbcoginmaboaaDoorQB38
import Derived.Test.YtolbcoginmaboaaDoorQB34
import Derived.Lib.OthersKept
import Derived.Lib.DecodeN
import Derived.Lib.TrimU
import Derived.Laws.Runes
import Derived.Deep.LoopGhost
import Derived.Deep.DeepMust
import Derived.Lib.FieldsP
namespace Go.Proofs.YtolbcoginmaboaaDoor
open Go.RowKit
set_option linter.unusedSimpArgs false
set_option linter.unusedVariables false

def bigX (ms : List ByteArray) : Prop := ∃ x ∈ ms, ∃ c ∈ x.toList, 128 ≤ c.toNat
def bigS (s : ByteArray) (ms : List ByteArray) : Prop := (∃ c ∈ s.toList, 128 ≤ c.toNat) ∧ bigX ms
/-- the marks of a text: of ASCII, or with one that is not -/
def MkT (s : ByteArray) (ms : List ByteArray) : Prop := ((∀ c ∈ s.toList, c.toNat < 128) ∧ ms = mkF s.toList) ∨ bigS s ms
def MkP (s : ByteArray) (pos : Nat) (all : List ByteArray) (wd : List UInt8) : Prop := ((∀ c ∈ s.toList.take pos, c.toNat < 128) ∧ (all, wd) = (s.toList.take pos).foldl mkS ([], [])) ∨ bigS s all
theorem big_more {a b : List ByteArray} (h : bigX a) (hs : ∀ x ∈ a, x ∈ b) : bigX b := by
  obtain ⟨x, hx, c, hc, h⟩ := h
  exact ⟨x, hs x hx, c, hc, h⟩
theorem add_sub (all : List ByteArray) (wd : List UInt8) : ∀ x ∈ all, x ∈ addW all wd := fun x hx => by
  unfold addW
  split
  · exact hx
  · exact List.mem_append.2 (.inl hx)
theorem decode_big (s : ByteArray) (pos : Nat) (h : 128 ≤ (s.get! pos).toNat) : 128 ≤ (Utf8.decode s pos).1 := by
  rw [Lib.decode_at]
  unfold Lib.decodeN
  rw [if_neg (by omega)]
  repeat' split
  all_goals first | omega | (dsimp only; omega)
theorem encode_big {r : Nat} (h : 128 ≤ r) (h2 : r ≤ 1114111) : ∃ c ∈ (Utf8.encode (r : Int)).toList, 128 ≤ c.toNat := by
  have key : ∀ n : Nat, 128 ≤ n → n < 256 → 128 ≤ (UInt8.ofNat n).toNat := fun n h1 h2 => by
    rw [UInt8.toNat_ofNat']
    omega
  unfold Utf8.encode
  obtain ⟨c, hc, hc2, hc3⟩ : ∃ c, (if Utf8.valid (r : Int) then (r : Int).toNat else Utf8.runeError) = c ∧ 128 ≤ c ∧ c ≤ 1114111 := ⟨_, rfl, by split <;> simp [Utf8.runeError] <;> omega, by split <;> simp [Utf8.runeError] <;> omega⟩
  rw [hc]
  dsimp only
  rw [if_neg (by omega)]
  split
  · exact ⟨_, by rw [Go.ByteArray.toList_eq]; exact List.mem_cons_self, key _ (by omega) (by omega)⟩
  · split
    · exact ⟨_, by rw [Go.ByteArray.toList_eq]; exact List.mem_cons_self, key _ (by omega) (by omega)⟩
    · exact ⟨_, by rw [Go.ByteArray.toList_eq]; exact List.mem_cons_self, key _ (by omega) (by omega)⟩
theorem encode_ascii {r : Nat} (h : r < 128) : Utf8.encode (r : Int) = ba [UInt8.ofNat r] := by
  unfold Utf8.encode
  have hv : Utf8.valid (r : Int) = true := by
    unfold Utf8.valid
    simp
    omega
  rw [hv]
  dsimp only
  rw [if_pos rfl, Int.toNat_natCast, if_pos (by omega)]
  rfl
theorem inR_W (c : UInt8) : inR (c.toNat : Int) = inW c := by
  unfold inR inW letB digB
  have := UInt8.toNat_lt c
  by_cases h : c.toNat < 128
  · rw [decide_eq_true (show (c.toNat : Int) < 128 by omega), Bool.true_and]
    rw [Bool.eq_iff_iff]
    simp only [Bool.or_eq_true, Bool.and_eq_true, decide_eq_true_eq, beq_iff_eq]
    omega
  · rw [decide_eq_false (show ¬ (c.toNat : Int) < 128 by omega), Bool.false_and]
    symm
    rw [Bool.eq_false_iff]
    simp only [ne_eq, Bool.or_eq_true, Bool.and_eq_true, decide_eq_true_eq, beq_iff_eq]
    omega
structure LkB (all : List ByteArray) (wd : List UInt8) (pos : Nat) : Prop where
  cnt : all.length + (if wd.isEmpty then 0 else 1) ≤ pos
  len : wd.length ≤ pos
  mz : mzB all
theorem get_list {s : ByteArray} {pos : Nat} (h : pos < s.size) : ∃ hp : pos < s.toList.length, s.toList[pos] = s.get! pos := by
  have e : s.toList.length = s.size := by rw [Go.ByteArray.toList_eq]; rfl
  refine ⟨by omega, ?_⟩
  simp only [Go.ByteArray.toList_eq]
  simp [ByteArray.get!, getElem!_pos, h]
theorem mk_in {s : ByteArray} {pos : Nat} {all : List ByteArray} {wd : List UInt8} (h : MkP s pos all wd) (hlt : pos < s.size) (hq : inR ((Utf8.decode s pos).1 : Int) = true) : MkP s (pos + (Utf8.decode s pos).2) all (wd ++ [UInt8.ofNat (Utf8.decode s pos).1]) := by
  rcases h with ⟨h1, h2⟩ | h
  · obtain ⟨hp, hg⟩ := get_list hlt
    by_cases hb : (s.get! pos).toNat < 128
    · have hd : Utf8.decode s pos = ((s.get! pos).toNat, 1) := by rw [Lib.decode_at]; unfold Lib.decodeN; rw [if_pos hb]
      rw [hd] at hq ⊢
      dsimp only at hq ⊢
      rw [inR_W] at hq
      left
      rw [List.take_succ_eq_append_getElem hp, hg]
      refine ⟨fun c hc => ?_, ?_⟩
      · rcases List.mem_append.1 hc with hc | hc
        · exact h1 c hc
        · simp at hc; rw [hc]; exact hb
      · rw [List.foldl_append, ← h2, List.foldl_cons, List.foldl_nil, mkS, if_pos hq]
        simp
    · have := decode_big s pos (by omega)
      unfold inR at hq
      rw [decide_eq_false (by omega)] at hq
      cases hq
  · exact .inr h
theorem mk_out {s : ByteArray} {pos : Nat} {all : List ByteArray} {wd : List UInt8} (h : MkP s pos all wd) (hlt : pos < s.size) (hq : inR ((Utf8.decode s pos).1 : Int) = false) : MkP s (pos + (Utf8.decode s pos).2) (addW all wd ++ [Utf8.encode ((Utf8.decode s pos).1 : Int)]) [] := by
  rcases h with ⟨h1, h2⟩ | h
  · obtain ⟨hp, hg⟩ := get_list hlt
    by_cases hb : (s.get! pos).toNat < 128
    · have hd : Utf8.decode s pos = ((s.get! pos).toNat, 1) := by rw [Lib.decode_at]; unfold Lib.decodeN; rw [if_pos hb]
      rw [hd] at hq ⊢
      dsimp only at hq ⊢
      rw [inR_W] at hq
      left
      rw [List.take_succ_eq_append_getElem hp, hg, encode_ascii hb]
      refine ⟨fun c hc => ?_, ?_⟩
      · rcases List.mem_append.1 hc with hc | hc
        · exact h1 c hc
        · simp at hc; rw [hc]; exact hb
      · rw [List.foldl_append, ← h2, List.foldl_cons, List.foldl_nil, mkS, if_neg (by rw [hq]; simp)]
        simp
    · have := decode_big s pos (by omega)
      obtain ⟨c, hc, hc2⟩ := encode_big this (Lib.rune_le s pos)
      exact .inr ⟨⟨s.get! pos, by rw [← hg]; exact List.getElem_mem hp, by omega⟩, _, List.mem_append.2 (.inr List.mem_cons_self), c, hc, hc2⟩
  · exact .inr ⟨h.1, big_more h.2 (fun x hx => List.mem_append.2 (.inl (add_sub all wd x hx)))⟩
theorem mk_end {s : ByteArray} {all : List ByteArray} {wd : List UInt8} (h : MkP s s.size all wd) : MkT s (addW all wd) := by
  have e : s.toList.take s.size = s.toList := List.take_of_length_le (by rw [Go.ByteArray.toList_eq]; exact Nat.le_refl _)
  rcases h with ⟨h1, h2⟩ | h
  · rw [e] at h1 h2
    refine .inl ⟨h1, ?_⟩
    unfold mkF mkE
    rw [← h2]
  · exact .inr ⟨h.1, big_more h.2 (add_sub all wd)⟩
theorem addW_len (all : List ByteArray) (wd : List UInt8) : (addW all wd).length = all.length + (if wd.isEmpty then 0 else 1) := by
  unfold addW
  split
  · rfl
  · simp
theorem encode_sz (r : Int) : (Utf8.encode r).size ≤ 4 := by
  unfold Utf8.encode
  dsimp only
  repeat' split
  all_goals exact Nat.le_of_ble_eq_true rfl
theorem addW_mz {all : List ByteArray} {wd : List UInt8} (h : mzB all) (hl : wd.length ≤ 8000) : mzB (addW all wd) := fun x hx => by
  unfold addW at hx
  split at hx
  · exact h x hx
  · rcases List.mem_append.1 hx with hx | hx
    · exact h x hx
    · simp at hx; subst hx; rw [sz_ba]; exact hl
theorem lk_in {all : List ByteArray} {wd : List UInt8} {pos K : Nat} (h : LkB all wd pos) (hK : 1 ≤ K) (c : UInt8) : LkB all (wd ++ [c]) (pos + K) := by
  have h1 := h.cnt
  have h2 := h.len
  refine ⟨?_, by rw [List.length_append]; simp; omega, h.mz⟩
  split <;> (split at h1 <;> omega)
theorem lk_out {all : List ByteArray} {wd : List UInt8} {pos K : Nat} (h : LkB all wd pos) (hp : pos ≤ 8000) (hK : 1 ≤ K) (r : Int) : LkB (addW all wd ++ [Utf8.encode r]) [] (pos + K) := by
  have h1 := h.cnt
  have h2 := h.len
  refine ⟨?_, by simp, fun x hx => ?_⟩
  · rw [List.length_append, addW_len]
    show all.length + (if wd.isEmpty then 0 else 1) + 1 + 0 ≤ pos + K
    omega
  · rcases List.mem_append.1 hx with hx | hx
    · exact addW_mz h.mz (by omega) x hx
    · simp at hx; subst hx; have := encode_sz r; omega
end Go.Proofs.YtolbcoginmaboaaDoor
/- marksOf of the program: its walk. -/
namespace Go.Proofs.YtolbcoginmaboaaDoor
open Go.RowKit
set_option linter.unusedSimpArgs false
set_option linter.unusedVariables false

/-- what marksOf keeps at hand: the text's place, the marks, the word -/
structure MkI (w : World) (s : ByteArray) (pos : Nat) (av wv : Value) (all : List ByteArray) (wd : List UInt8) (wx : World) : Prop where
  ao : SwOwn wx (w.heap.size + 1) av all
  wo : ByOwn wx (w.heap.size + 1) wv wd
  dis : ∀ b ∈ vblocks wv, b ∉ vblocks av
  it : wx.heap[w.heap.size]? = some (.stringIter s pos)
  below : Below w.heap.size w wx
  mp : MkP s pos all wd
  lk : LkB all wd pos
  le : pos ≤ s.size
theorem own_it {w : World} {B e size n : Nat} {v : Value} {xs : List Value} {k : Nat} {s : ByteArray} {pos : Nat} (h : w.ownsRow B e size v n xs) (hk : w.heap[k]? = some (.stringIter s pos)) (pos' : Nat) : (w.iterAt k s pos').ownsRow B e size v n xs := by
  refine ⟨h.1, ?_⟩
  rcases h.2 with h0 | ⟨g, cap, cur, hv, hb, hg, rest⟩
  · exact .inl h0
  · refine .inr ⟨g, cap, cur, hv, hb, ?_, rest⟩
    rw [Lib.iterAt_other _ _ _ _ _ (fun e => by subst e; rw [hk] at hg; cases hg)]
    exact hg
theorem u8_of {R : Nat} (h : R < 128) : ((UInt8.ofNat R).toNat : Int) = (R : Int) := by
  rw [UInt8.toNat_ofNat']
  omega
theorem in_small {R : Nat} (h : inR (R : Int) = true) : R < 128 := by
  unfold inR at h
  simp only [Bool.and_eq_true, decide_eq_true_eq] at h
  omega
theorem MkI.next {w : World} {s : ByteArray} {pos : Nat} {av wv : Value} {all : List ByteArray} {wd : List UInt8} {wx : World} (h : MkI w s pos av wv all wd wx) (K : Nat) : SwOwn (wx.iterAt w.heap.size s (pos + K)) (w.heap.size + 1) av all ∧ ByOwn (wx.iterAt w.heap.size s (pos + K)) (w.heap.size + 1) wv wd ∧ (wx.iterAt w.heap.size s (pos + K)).heap[w.heap.size]? = some (.stringIter s (pos + K)) ∧ Below w.heap.size w (wx.iterAt w.heap.size s (pos + K)) :=
  ⟨own_it h.ao h.it _, own_it h.wo h.it _, Lib.iterAt_heap wx w.heap.size s pos (pos + K) h.it, Lib.below_iterAt h.below (k := w.heap.size) (Nat.le_refl _) s (pos + K)⟩
theorem own_hi {w : World} {B e size n : Nat} {v : Value} {xs : List Value} (h : w.ownsRow B e size v n xs) : ∀ b ∈ vblocks v, B ≤ b ∧ b < w.heap.size := fun b hb => by
  rcases h.2 with ⟨rfl, _⟩ | ⟨g, cap, cur, rfl, hB, hg, rest⟩
  · simp [vblocks, cellBlocks] at hb
  · simp [vblocks, cellBlocks] at hb
    subst hb
    exact ⟨hB, (Array.getElem?_eq_some_iff.1 hg).1⟩
theorem own_nil {w : World} {B e n : Nat} {p : Option Addr} {c : Nat} {xs : List Value} (h : w.ownsRow B e 1 (.slice p n c) n xs) : w.ownsRow B e 1 (.slice p 0 c) 0 [] := by
  refine ⟨rfl, ?_⟩
  rcases h.2 with ⟨e1, h0⟩ | ⟨g, cap, cur, hv, hB, hg, h1, h2, h3, h4⟩
  · injection e1 with e1 e2 e3
    subst e1 e3
    exact .inl ⟨rfl, rfl⟩
  · injection hv with e1 e2 e3
    subst e1 e3
    exact .inr ⟨g, _, cur, rfl, hB, hg, Nat.zero_le _, h2, h3, by simp⟩
theorem own_base {w : World} {B B' e size n : Nat} {v : Value} {xs : List Value} (h : w.ownsRow B e size v n xs) (hB : B' ≤ B) : w.ownsRow B' e size v n xs := by
  refine ⟨h.1, ?_⟩
  rcases h.2 with h0 | ⟨g, cap, cur, hv, hb, rest⟩
  · exact .inl h0
  · exact .inr ⟨g, cap, cur, hv, Nat.le_trans hB hb, rest⟩
set_option maxRecDepth 100000 in
theorem marks_of (s : ByteArray) (w : World) (hs : s.size ≤ 8000) :
    Calls Tryd.prog 37 #[.string s] w fun e w' => ∃ v ms, e = .returned v ∧ SwOwn w' w.heap.size v ms ∧ ms.length ≤ 8000 ∧ mzB ms ∧ MkT s ms ∧ Below w.heap.size w w' := by
  go_enter Tryd.func37, Tryd.ntmps37
  go_wp2_with fail
  go_loopg [3, 4] s.size (fun gf s3 s4 wx => ∃ pos all wd, MkI w s pos s3 s4 all wd wx ∧ s.size ≤ pos + gf)
  case atStart =>
    refine ⟨0, [], [], ⟨World.ownsRow_nil _ _ _ _, World.ownsRow_nil _ _ _ _, by simp [vblocks, cellBlocks], World.iter_heap w s 0, malloc1 _ _, .inl ⟨by simp, by simp⟩, ⟨by simp, by simp, fun x hx => by cases hx⟩, Nat.zero_le _⟩, by omega⟩
  case round =>
    obtain ⟨pos, all, wd, HM, hfu⟩ := hrel
    have hle := HM.le
    by_cases hlt : pos < s.size
    · obtain ⟨g', rfl⟩ : ∃ g', gk = g' + 1 := ⟨gk - 1, by omega⟩
      have hnx : ∀ ty, (Instr.next (.pointer (some ⟨w.heap.size, 0, none⟩)) true ty).run Tryd.prog wr = _ := fun ty => Lib.run_next_any_at wr w.heap.size s pos ty HM.it hlt
      have hwd := Lib.width_pos s pos
      have hwn : pos + (Utf8.decode s pos).2 ≤ s.size := by
        have := Lib.decodeN_le_n' (s.size - pos) (s.get! pos).toNat (s.get! (pos + 1)).toNat (s.get! (pos + 2)).toNat (s.get! (pos + 3)).toNat (by omega)
        rw [← Lib.decode_at] at this
        omega
      have HIN := hide (mk_in HM.mp hlt)
      have HOUT := hide (mk_out HM.mp hlt)
      have hrl := Lib.rune_le s pos
      obtain ⟨R, hR⟩ : ∃ R, (Utf8.decode s pos).1 = R := ⟨_, rfl⟩
      obtain ⟨K, hK⟩ : ∃ K, (Utf8.decode s pos).2 = K := ⟨_, rfl⟩
      rw [hR, hK] at hnx HIN HOUT
      rw [hK] at hwd hwn
      rw [hR] at hrl
      obtain ⟨hA, hW, hit, hbw⟩ := HM.next K
      obtain ⟨W, hWd⟩ : ∃ W, wr.iterAt w.heap.size s (pos + K) = W := ⟨_, rfl⟩
      rw [hWd] at hnx hA hW hit hbw
      have HA := hide hA
      have HW := hide hW
      have HIT := hide hit
      have HB := hide hbw
      have HD := hide HM.dis
      have HLK := hide HM.lk
      have hc1 := HM.lk.cnt
      have hc2 := HM.lk.len
      have hal : all.length ≤ 8000 := by split at hc1 <;> omega
      have hwl : wd.length ≤ 8000 := by omega
      have hBs := hbw.size
      have hIs : w.heap.size < W.heap.size := (Array.getElem?_eq_some_iff.1 hit).1
      have cS : Hid (Calls Tryd.prog 52 #[.int .i32 (R : Int)] W fun e w' => e = .returned (.bool (inR R)) ∧ w' = W) := hide (in_word R W (by omega) (by omega))
      obtain ⟨ap, ac, rfl⟩ := owns_shape hA
      obtain ⟨wp, wc, rfl⟩ := owns_shape hW
      clear hA hW hit hbw HM hR hK hWd hc1 hc2
      cases hq : inR (R : Int)
      · rw [hq] at cS
        obtain ⟨i0, hi, hz0, hz1, hz2⟩ := info_parts Tryd.infoStr
        have HI := hide (And.intro hi (And.intro hz0 (And.intro hz1 hz2)))
        clear hi hz0 hz1 hz2
        have CA := hide (add_word all wd (.slice ap all.length ac) (.slice wp wd.length wc) W (w.heap.size + 1) (by omega) (by omega) (by omega) HA.out HW.out)
        have hL2 : (addW all wd).length ≤ 8001 := by rw [addW_len]; split <;> omega
        obtain ⟨al, hal2⟩ : ∃ al, addW all wd = al := ⟨_, rfl⟩
        have HAL := hide hal2
        rw [hal2] at CA hL2
        clear hal2
        go_wp2_with (first
          | (go_at_call 52; refine cS.out.mono ?_; rintro e w1 ⟨rfl, e1⟩; have e2 := e1.symm; clear e1; subst e2)
          | (go_at_call 53; refine CA.out.mono ?_; rintro e w2 ⟨v2, rfl, o2, a2, b2⟩; have HO2 := hide o2; have HA2 := hide a2; have HB2 := hide b2; obtain ⟨p2, c2, rfl⟩ := owns_shape o2; have hsz2 := a2.size; clear o2 a2 b2)
          | (at_builtin; go_must (refine wpList_append_own_at _ rfl (.tmp 21) (.tmp 24) 56 rfl (w.heap.size + 1) 9 i0 (.string ⟨#[]⟩) 1 16 Tryd.underlying56 HI.out.1 HI.out.2.1 HI.out.2.2.1 HI.out.2.2.2 rfl (by decide) (.slice p2 al.length c2) al.length (al.map Value.string) rfl (owns_below HO2.out (malloc1 _ _)) ⟨w2.heap.size, 0, none⟩ 1 1 [.string (Utf8.encode (R : Int))] rfl rfl (cell_one_new _ _ _) (by simp [Value.oneCell']) (by unfold maxLen; omega) (by omega) (by simp; omega) ?_; intro v7 w7 hown7 hgr7 _ hat7; have HR7 := hide (row_sub HO2.out _ hown7 hgr7 hat7); have HO7 := hide hown7; obtain ⟨p7, c7, rfl⟩ := owns_shape hown7; clear hown7 hgr7 hat7)))
        go_roundg g'
        case measure => omega
        case rel =>
          have hb2 : ∀ b ∈ vblocks (.slice wp wd.length wc), b ∉ vblocks (.slice p2 al.length c2) := fun b hb hm => by
            rcases HB2.out b hm with h | h
            · exact HD.out b hb h
            · have := (own_hi HW.out b hb).2
              omega
          have hp2 : ∀ b ∈ vblocks (.slice p2 al.length c2), w.heap.size + 1 ≤ b := fun b hb => (own_hi HO2.out b hb).1
          have hap : ∀ b ∈ vblocks (.slice ap all.length ac), w.heap.size + 1 ≤ b := fun b hb => (own_hi HA.out b hb).1
          refine ⟨pos + K, al ++ [Utf8.encode (R : Int)], [], ⟨?_, own_nil (owns_keep (owns_keep HW.out HA2.out HD.out) HR7.out.1 hb2), ?_, ?_, ?_, ?_, ?_, hwn⟩, by omega⟩
          · unfold SwOwn
            rw [List.length_append, List.map_append]
            exact HO7.out
          · intro b hb hm
            have hb : b ∈ vblocks (.slice wp wd.length wc) := by cases wp <;> exact hb
            rcases HR7.out.2 b hm with h | h
            · exact hb2 b hb h
            · have := (own_hi HW.out b hb).2
              omega
          · exact (HR7.out.1.block w.heap.size (by omega) (fun hm => by have := hp2 _ hm; omega)).trans ((HA2.out.block w.heap.size hIs (fun hm => by have := hap _ hm; omega)).trans HIT.out)
          · exact (HB.out.trans (HA2.out.below hBs (fun b hb => by have := hap _ hb; omega))).trans (HR7.out.1.below (by omega) (fun b hb => by have := hp2 _ hb; omega))
          · rw [← HAL.out]
            exact HOUT.out hq
          · rw [← HAL.out]
            exact lk_out HLK.out (by omega) hwd _
      · rw [hq] at cS
        have hsm := in_small hq
        have hwr : IntKind.u8.wrap (R : Int) = (R : Int) := by simp [IntKind.wrap, IntKind.bits, IntKind.signed]; omega
        obtain ⟨i0, hi, hz0, hz1, hz2⟩ := info_parts Tryd.infoU8
        have HI := hide (And.intro hi (And.intro hz0 (And.intro hz1 hz2)))
        clear hi hz0 hz1 hz2
        go_wp2_with (first
          | (go_at_call 52; refine cS.out.mono ?_; rintro e w1 ⟨rfl, e1⟩; have e2 := e1.symm; clear e1; subst e2)
          | (at_builtin; go_must (refine wpList_append_own_at _ rfl (.tmp 14) (.tmp 17) 76 rfl (w.heap.size + 1) 5 i0 (.int .u8 0) 1 1 Tryd.underlying76 HI.out.1 HI.out.2.1 HI.out.2.2.1 HI.out.2.2.2 rfl (by decide) (.slice wp wd.length wc) wd.length (List.map (fun c : UInt8 => Value.int .u8 (c.toNat : Int)) wd) rfl (owns_below HW.out (malloc1 _ _)) ⟨W.heap.size, 0, none⟩ 1 1 [.int .u8 (R : Int)] rfl rfl (cell_one_new _ _ _) (by simp [Value.oneCell']) (by unfold maxLen; omega) (by omega) (by simp; omega) ?_; intro v7 w7 hown7 hgr7 _ hat7; have HR7 := hide (row_sub HW.out _ hown7 hgr7 hat7); have HO7 := hide hown7; obtain ⟨p7, c7, rfl⟩ := owns_shape hown7; clear hown7 hgr7 hat7)))
        go_roundg g'
        case measure => omega
        case rel =>
          refine ⟨pos + K, all, wd ++ [UInt8.ofNat R], ⟨owns_keep HA.out HR7.out.1 (fun b hb hm => HD.out b hm hb), ?_, ?_, ?_, ?_, HIN.out hq, lk_in HLK.out hwd _, hwn⟩, by omega⟩
          · unfold ByOwn
            rw [List.length_append, List.map_append, List.map_cons, List.map_nil, u8_of hsm]
            exact HO7.out
          · intro b hb hm
            rcases HR7.out.2 b hb with h | h
            · exact HD.out b h hm
            · have := (own_hi HA.out b hm).2
              omega
          · exact (HR7.out.1.block w.heap.size hIs (fun hm => by have := (own_hi HW.out _ hm).1; omega)).trans HIT.out
          · exact HB.out.trans (HR7.out.1.below hBs (fun b hb => by have := (own_hi HW.out _ hb).1; omega))
    · obtain rfl : pos = s.size := by omega
      have hnx : ∀ ty, (Instr.next (.pointer (some ⟨w.heap.size, 0, none⟩)) true ty).run Tryd.prog wr = _ := fun ty => Lib.run_next_end_at wr w.heap.size s s.size ty HM.it hlt
      have hc1 := HM.lk.cnt
      have hc2 := HM.lk.len
      have hBs := HM.below.size
      have hIs : w.heap.size < wr.heap.size := (Array.getElem?_eq_some_iff.1 HM.it).1
      have hA := HM.ao
      have hW := HM.wo
      have HM := hide HM
      obtain ⟨ap, ac, rfl⟩ := owns_shape hA
      obtain ⟨wp, wc, rfl⟩ := owns_shape hW
      have CA := hide (add_word all wd (.slice ap all.length ac) (.slice wp wd.length wc) wr (w.heap.size + 1) (by split at hc1 <;> omega) (by omega) (by omega) hA hW)
      have HL := hide (And.intro hA (And.intro hc1 hc2))
      clear hA hW hc1 hc2
      go_wp2_with (go_at_call 53; refine CA.out.mono ?_; rintro e w2 ⟨v2, rfl, o2, a2, b2⟩; have HO2 := hide o2; have HA2 := hide a2; have HB2 := hide b2; obtain ⟨p2, c2, rfl⟩ := owns_shape o2; clear o2 a2 b2)
      go_ret
      obtain ⟨hA, hc1, hc2⟩ := HL.out
      refine ⟨_, addW all wd, rfl, own_base HO2.out (by omega), by rw [addW_len]; omega, addW_mz HM.out.lk.mz (by omega), mk_end HM.out.mp, HM.out.below.trans (HA2.out.below hBs (fun b hb => by have := (own_hi hA b hb).1; omega))⟩
end Go.Proofs.YtolbcoginmaboaaDoor
