import Derived.Test.YtmjlblbhakppfaaGreatDoorQP26
import Derived.Test.YtmjlblbhakppfaaGreatDoorQP18
import Derived.Lib.OthersKept
import Derived.Lib.DecodeN
import Derived.Lib.TrimU
import Derived.Laws.Runes
import Derived.Deep.LoopGhost
import Derived.Deep.DeepMust
import Derived.Lib.FieldsP
import Derived.Test.YtmjlblbhakppfaaGreatDoorQP10
namespace Go.Proofs.YtmjlblbhakppfaaGreatDoor
open Go.RowKit
set_option linter.unusedSimpArgs false
set_option linter.unusedVariables false

def bigX (ms : List ByteArray) : Prop := ∃ x ∈ ms, ∃ c ∈ x.toList, 128 ≤ c.toNat
def bigS (s : ByteArray) (ms : List ByteArray) : Prop := (∃ c ∈ s.toList, 128 ≤ c.toNat) ∧ bigX ms
def MkT (s : ByteArray) (ms : List ByteArray) : Prop := ((∀ c ∈ s.toList, c.toNat < 128) ∧ ms = mkF s.toList) ∨ bigS s ms
def MkP (s : ByteArray) (pos : Nat) (all : List ByteArray) (wd : List UInt8) : Prop := ((∀ c ∈ s.toList.take pos, c.toNat < 128) ∧ (all, wd) = (s.toList.take pos).foldl mkS ([], [])) ∨ bigS s all
theorem big_more {a b : List ByteArray} (h : bigX a) (hs : ∀ x ∈ a, x ∈ b) : bigX b := by
  obtain ⟨x, hx, c, hc, h⟩ := h
  exact ⟨x, hs x hx, c, hc, h⟩
theorem add_sub (all : List ByteArray) (wd : List UInt8) : ∀ x ∈ all, x ∈ addW all wd := fun x hx => by
  unfold addW
  split
  · exact hx
  · exact List.mem_append.2 (.inl hx)
theorem decode_big (s : ByteArray) (pos : Nat) (h : 128 ≤ (s.get! pos).toNat) : 128 ≤ (Utf8.decode s pos).1 := by
  rw [Lib.decode_at]
  unfold Lib.decodeN
  rw [if_neg (by omega)]
  repeat' split
  all_goals first | omega | (dsimp only; omega)
theorem encode_big {r : Nat} (h : 128 ≤ r) (h2 : r ≤ 1114111) : ∃ c ∈ (Utf8.encode (r : Int)).toList, 128 ≤ c.toNat := by
  have key : ∀ n : Nat, 128 ≤ n → n < 256 → 128 ≤ (UInt8.ofNat n).toNat := fun n h1 h2 => by
    rw [UInt8.toNat_ofNat']
    omega
  unfold Utf8.encode
  obtain ⟨c, hc, hc2, hc3⟩ : ∃ c, (if Utf8.valid (r : Int) then (r : Int).toNat else Utf8.runeError) = c ∧ 128 ≤ c ∧ c ≤ 1114111 := ⟨_, rfl, by split <;> simp [Utf8.runeError] <;> omega, by split <;> simp [Utf8.runeError] <;> omega⟩
  rw [hc]
  dsimp only
  rw [if_neg (by omega)]
  split
  · exact ⟨_, by rw [Go.ByteArray.toList_eq]; exact List.mem_cons_self, key _ (by omega) (by omega)⟩
  · split
    · exact ⟨_, by rw [Go.ByteArray.toList_eq]; exact List.mem_cons_self, key _ (by omega) (by omega)⟩
    · exact ⟨_, by rw [Go.ByteArray.toList_eq]; exact List.mem_cons_self, key _ (by omega) (by omega)⟩
theorem encode_ascii {r : Nat} (h : r < 128) : Utf8.encode (r : Int) = ba [UInt8.ofNat r] := by
  unfold Utf8.encode
  have hv : Utf8.valid (r : Int) = true := by
    unfold Utf8.valid
    simp
    omega
  rw [hv]
  dsimp only
  rw [if_pos rfl, Int.toNat_natCast, if_pos (by omega)]
  rfl
theorem inR_W (c : UInt8) : inR (c.toNat : Int) = inW c := by
  unfold inR inW letB digB
  have := UInt8.toNat_lt c
  by_cases h : c.toNat < 128
  · rw [decide_eq_true (show (c.toNat : Int) < 128 by omega), Bool.true_and]
    rw [Bool.eq_iff_iff]
    simp only [Bool.or_eq_true, Bool.and_eq_true, decide_eq_true_eq, beq_iff_eq]
    omega
  · rw [decide_eq_false (show ¬ (c.toNat : Int) < 128 by omega), Bool.false_and]
    symm
    rw [Bool.eq_false_iff]
    simp only [ne_eq, Bool.or_eq_true, Bool.and_eq_true, decide_eq_true_eq, beq_iff_eq]
    omega
structure LkB (all : List ByteArray) (wd : List UInt8) (pos : Nat) : Prop where
  cnt : all.length + (if wd.isEmpty then 0 else 1) ≤ pos
  len : wd.length ≤ pos
  mz : mzB all
theorem get_list {s : ByteArray} {pos : Nat} (h : pos < s.size) : ∃ hp : pos < s.toList.length, s.toList[pos] = s.get! pos := by
  have e : s.toList.length = s.size := by rw [Go.ByteArray.toList_eq]; rfl
  refine ⟨by omega, ?_⟩
  simp only [Go.ByteArray.toList_eq]
  simp [ByteArray.get!, getElem!_pos, h]
theorem mk_in {s : ByteArray} {pos : Nat} {all : List ByteArray} {wd : List UInt8} (h : MkP s pos all wd) (hlt : pos < s.size) (hq : inR ((Utf8.decode s pos).1 : Int) = true) : MkP s (pos + (Utf8.decode s pos).2) all (wd ++ [UInt8.ofNat (Utf8.decode s pos).1]) := by
  rcases h with ⟨h1, h2⟩ | h
  · obtain ⟨hp, hg⟩ := get_list hlt
    by_cases hb : (s.get! pos).toNat < 128
    · have hd : Utf8.decode s pos = ((s.get! pos).toNat, 1) := by rw [Lib.decode_at]; unfold Lib.decodeN; rw [if_pos hb]
      rw [hd] at hq ⊢
      dsimp only at hq ⊢
      rw [inR_W] at hq
      left
      rw [List.take_succ_eq_append_getElem hp, hg]
      refine ⟨fun c hc => ?_, ?_⟩
      · rcases List.mem_append.1 hc with hc | hc
        · exact h1 c hc
        · simp at hc; rw [hc]; exact hb
      · rw [List.foldl_append, ← h2, List.foldl_cons, List.foldl_nil, mkS, if_pos hq]
        simp
    · have := decode_big s pos (by omega)
      unfold inR at hq
      rw [decide_eq_false (by omega)] at hq
      cases hq
  · exact .inr h
theorem mk_out {s : ByteArray} {pos : Nat} {all : List ByteArray} {wd : List UInt8} (h : MkP s pos all wd) (hlt : pos < s.size) (hq : inR ((Utf8.decode s pos).1 : Int) = false) : MkP s (pos + (Utf8.decode s pos).2) (addW all wd ++ [Utf8.encode ((Utf8.decode s pos).1 : Int)]) [] := by
  rcases h with ⟨h1, h2⟩ | h
  · obtain ⟨hp, hg⟩ := get_list hlt
    by_cases hb : (s.get! pos).toNat < 128
    · have hd : Utf8.decode s pos = ((s.get! pos).toNat, 1) := by rw [Lib.decode_at]; unfold Lib.decodeN; rw [if_pos hb]
      rw [hd] at hq ⊢
      dsimp only at hq ⊢
      rw [inR_W] at hq
      left
      rw [List.take_succ_eq_append_getElem hp, hg, encode_ascii hb]
      refine ⟨fun c hc => ?_, ?_⟩
      · rcases List.mem_append.1 hc with hc | hc
        · exact h1 c hc
        · simp at hc; rw [hc]; exact hb
      · rw [List.foldl_append, ← h2, List.foldl_cons, List.foldl_nil, mkS, if_neg (by rw [hq]; simp)]
        simp
    · have := decode_big s pos (by omega)
      obtain ⟨c, hc, hc2⟩ := encode_big this (Lib.rune_le s pos)
      exact .inr ⟨⟨s.get! pos, by rw [← hg]; exact List.getElem_mem hp, by omega⟩, _, List.mem_append.2 (.inr List.mem_cons_self), c, hc, hc2⟩
  · exact .inr ⟨h.1, big_more h.2 (fun x hx => List.mem_append.2 (.inl (add_sub all wd x hx)))⟩
theorem mk_end {s : ByteArray} {all : List ByteArray} {wd : List UInt8} (h : MkP s s.size all wd) : MkT s (addW all wd) := by
  have e : s.toList.take s.size = s.toList := List.take_of_length_le (by rw [Go.ByteArray.toList_eq]; exact Nat.le_refl _)
  rcases h with ⟨h1, h2⟩ | h
  · rw [e] at h1 h2
    refine .inl ⟨h1, ?_⟩
    unfold mkF mkE
    rw [← h2]
  · exact .inr ⟨h.1, big_more h.2 (add_sub all wd)⟩
theorem addW_len (all : List ByteArray) (wd : List UInt8) : (addW all wd).length = all.length + (if wd.isEmpty then 0 else 1) := by
  unfold addW
  split
  · rfl
  · simp
theorem encode_sz (r : Int) : (Utf8.encode r).size ≤ 4 := by
  unfold Utf8.encode
  dsimp only
  repeat' split
  all_goals exact Nat.le_of_ble_eq_true rfl
theorem addW_mz {all : List ByteArray} {wd : List UInt8} (h : mzB all) (hl : wd.length ≤ 8000) : mzB (addW all wd) := fun x hx => by
  unfold addW at hx
  split at hx
  · exact h x hx
  · rcases List.mem_append.1 hx with hx | hx
    · exact h x hx
    · simp at hx; subst hx; rw [sz_ba]; exact hl
theorem lk_in {all : List ByteArray} {wd : List UInt8} {pos K : Nat} (h : LkB all wd pos) (hK : 1 ≤ K) (c : UInt8) : LkB all (wd ++ [c]) (pos + K) := by
  have h1 := h.cnt
  have h2 := h.len
  refine ⟨?_, by rw [List.length_append]; simp; omega, h.mz⟩
  split <;> (split at h1 <;> omega)
theorem lk_out {all : List ByteArray} {wd : List UInt8} {pos K : Nat} (h : LkB all wd pos) (hp : pos ≤ 8000) (hK : 1 ≤ K) (r : Int) : LkB (addW all wd ++ [Utf8.encode r]) [] (pos + K) := by
  have h1 := h.cnt
  have h2 := h.len
  refine ⟨?_, by simp, fun x hx => ?_⟩
  · rw [List.length_append, addW_len]
    show all.length + (if wd.isEmpty then 0 else 1) + 1 + 0 ≤ pos + K
    omega
  · rcases List.mem_append.1 hx with hx | hx
    · exact addW_mz h.mz (by omega) x hx
    · simp at hx; subst hx; have := encode_sz r; omega
end Go.Proofs.YtmjlblbhakppfaaGreatDoor
namespace Go.Proofs.YtmjlblbhakppfaaGreatDoor
open Go.RowKit
set_option linter.unusedSimpArgs false
set_option linter.unusedVariables false

structure MkI (w : World) (s : ByteArray) (pos : Nat) (av wv : Value) (all : List ByteArray) (wd : List UInt8) (wx : World) : Prop where
  ao : SwOwn wx (w.heap.size + 1) av all
  wo : ByOwn wx (w.heap.size + 1) wv wd
  dis : ∀ b ∈ vblocks wv, b ∉ vblocks av
  it : wx.heap[w.heap.size]? = some (.stringIter s pos)
  below : Below w.heap.size w wx
  mp : MkP s pos all wd
  lk : LkB all wd pos
  le : pos ≤ s.size
theorem own_it {w : World} {B e size n : Nat} {v : Value} {xs : List Value} {k : Nat} {s : ByteArray} {pos : Nat} (h : w.ownsRow B e size v n xs) (hk : w.heap[k]? = some (.stringIter s pos)) (pos' : Nat) : (w.iterAt k s pos').ownsRow B e size v n xs := by
  refine ⟨h.1, ?_⟩
  rcases h.2 with h0 | ⟨g, cap, cur, hv, hb, hg, rest⟩
  · exact .inl h0
  · refine .inr ⟨g, cap, cur, hv, hb, ?_, rest⟩
    rw [Lib.iterAt_other _ _ _ _ _ (fun e => by subst e; rw [hk] at hg; cases hg)]
    exact hg
theorem u8_of {R : Nat} (h : R < 128) : ((UInt8.ofNat R).toNat : Int) = (R : Int) := by
  rw [UInt8.toNat_ofNat']
  omega
theorem in_small {R : Nat} (h : inR (R : Int) = true) : R < 128 := by
  unfold inR at h
  simp only [Bool.and_eq_true, decide_eq_true_eq] at h
  omega
theorem MkI.next {w : World} {s : ByteArray} {pos : Nat} {av wv : Value} {all : List ByteArray} {wd : List UInt8} {wx : World} (h : MkI w s pos av wv all wd wx) (K : Nat) : SwOwn (wx.iterAt w.heap.size s (pos + K)) (w.heap.size + 1) av all ∧ ByOwn (wx.iterAt w.heap.size s (pos + K)) (w.heap.size + 1) wv wd ∧ (wx.iterAt w.heap.size s (pos + K)).heap[w.heap.size]? = some (.stringIter s (pos + K)) ∧ Below w.heap.size w (wx.iterAt w.heap.size s (pos + K)) :=
  ⟨own_it h.ao h.it _, own_it h.wo h.it _, Lib.iterAt_heap wx w.heap.size s pos (pos + K) h.it, Lib.below_iterAt h.below (k := w.heap.size) (Nat.le_refl _) s (pos + K)⟩
theorem own_hi {w : World} {B e size n : Nat} {v : Value} {xs : List Value} (h : w.ownsRow B e size v n xs) : ∀ b ∈ vblocks v, B ≤ b ∧ b < w.heap.size := fun b hb => by
  rcases h.2 with ⟨rfl, _⟩ | ⟨g, cap, cur, rfl, hB, hg, rest⟩
  · simp [vblocks, cellBlocks] at hb
  · simp [vblocks, cellBlocks] at hb
    subst hb
    exact ⟨hB, (Array.getElem?_eq_some_iff.1 hg).1⟩
theorem own_nil {w : World} {B e n : Nat} {p : Option Addr} {c : Nat} {xs : List Value} (h : w.ownsRow B e 1 (.slice p n c) n xs) : w.ownsRow B e 1 (.slice p 0 c) 0 [] := by
  refine ⟨rfl, ?_⟩
  rcases h.2 with ⟨e1, h0⟩ | ⟨g, cap, cur, hv, hB, hg, h1, h2, h3, h4⟩
  · injection e1 with e1 e2 e3
    subst e1 e3
    exact .inl ⟨rfl, rfl⟩
  · injection hv with e1 e2 e3
    subst e1 e3
    exact .inr ⟨g, _, cur, rfl, hB, hg, Nat.zero_le _, h2, h3, by simp⟩
theorem own_base {w : World} {B B' e size n : Nat} {v : Value} {xs : List Value} (h : w.ownsRow B e size v n xs) (hB : B' ≤ B) : w.ownsRow B' e size v n xs := by
  refine ⟨h.1, ?_⟩
  rcases h.2 with h0 | ⟨g, cap, cur, hv, hb, rest⟩
  · exact .inl h0
  · exact .inr ⟨g, cap, cur, hv, Nat.le_trans hB hb, rest⟩
set_option maxRecDepth 100000 in
theorem marks_of (s : ByteArray) (w : World) (hs : s.size ≤ 8000) :
    Calls Tryz.prog 43 #[.string s] w fun e w' => ∃ v ms, e = .returned v ∧ SwOwn w' w.heap.size v ms ∧ ms.length ≤ 8000 ∧ mzB ms ∧ MkT s ms ∧ Below w.heap.size w w' := by
  go_enter Tryz.func43, Tryz.ntmps43
  go_wp2_with fail
  go_loopg [3, 4] s.size (fun gf s3 s4 wx => ∃ pos all wd, MkI w s pos s3 s4 all wd wx ∧ s.size ≤ pos + gf)
  case atStart =>
    refine ⟨0, [], [], ⟨World.ownsRow_nil _ _ _ _, World.ownsRow_nil _ _ _ _, by simp [vblocks, cellBlocks], World.iter_heap w s 0, malloc1 _ _, .inl ⟨by simp, by simp⟩, ⟨by simp, by simp, fun x hx => by cases hx⟩, Nat.zero_le _⟩, by omega⟩
  case round =>
    obtain ⟨pos, all, wd, HM, hfu⟩ := hrel
    have hle := HM.le
    by_cases hlt : pos < s.size
    · obtain ⟨g', rfl⟩ : ∃ g', gk = g' + 1 := ⟨gk - 1, by omega⟩
      have hnx : ∀ ty, (Instr.next (.pointer (some ⟨w.heap.size, 0, none⟩)) true ty).run Tryz.prog wr = _ := fun ty => Lib.run_next_any_at wr w.heap.size s pos ty HM.it hlt
      have hwd := Lib.width_pos s pos
      have hwn : pos + (Utf8.decode s pos).2 ≤ s.size := by
        have := Lib.decodeN_le_n' (s.size - pos) (s.get! pos).toNat (s.get! (pos + 1)).toNat (s.get! (pos + 2)).toNat (s.get! (pos + 3)).toNat (by omega)
        rw [← Lib.decode_at] at this
        omega
      have HIN := hide (mk_in HM.mp hlt)
      have HOUT := hide (mk_out HM.mp hlt)
      have hrl := Lib.rune_le s pos
      obtain ⟨R, hR⟩ : ∃ R, (Utf8.decode s pos).1 = R := ⟨_, rfl⟩
      obtain ⟨K, hK⟩ : ∃ K, (Utf8.decode s pos).2 = K := ⟨_, rfl⟩
      rw [hR, hK] at hnx HIN HOUT
      rw [hK] at hwd hwn
      rw [hR] at hrl
      obtain ⟨hA, hW, hit, hbw⟩ := HM.next K
      obtain ⟨W, hWd⟩ : ∃ W, wr.iterAt w.heap.size s (pos + K) = W := ⟨_, rfl⟩
      rw [hWd] at hnx hA hW hit hbw
      have HA := hide hA
      have HW := hide hW
      have HIT := hide hit
      have HB := hide hbw
      have HD := hide HM.dis
      have HLK := hide HM.lk
      have hc1 := HM.lk.cnt
      have hc2 := HM.lk.len
      have hal : all.length ≤ 8000 := by split at hc1 <;> omega
      have hwl : wd.length ≤ 8000 := by omega
      have hBs := hbw.size
      have hIs : w.heap.size < W.heap.size := (Array.getElem?_eq_some_iff.1 hit).1
      have cS : Hid (Calls Tryz.prog 73 #[.int .i32 (R : Int)] W fun e w' => e = .returned (.bool (inR R)) ∧ w' = W) := hide (in_word R W (by omega) (by omega))
      obtain ⟨ap, ac, rfl⟩ := owns_shape hA
      obtain ⟨wp, wc, rfl⟩ := owns_shape hW
      clear hA hW hit hbw HM hR hK hWd hc1 hc2
      cases hq : inR (R : Int)
      · rw [hq] at cS
        obtain ⟨i0, hi, hz0, hz1, hz2⟩ := info_parts Tryz.infoStr
        have HI := hide (And.intro hi (And.intro hz0 (And.intro hz1 hz2)))
        clear hi hz0 hz1 hz2
        have CA := hide (add_word all wd (.slice ap all.length ac) (.slice wp wd.length wc) W (w.heap.size + 1) (by omega) (by omega) (by omega) HA.out HW.out)
        have hL2 : (addW all wd).length ≤ 8001 := by rw [addW_len]; split <;> omega
        obtain ⟨al, hal2⟩ : ∃ al, addW all wd = al := ⟨_, rfl⟩
        have HAL := hide hal2
        rw [hal2] at CA hL2
        clear hal2
        go_wp2_with (first
          | (go_at_call 73; refine cS.out.mono ?_; rintro e w1 ⟨rfl, e1⟩; have e2 := e1.symm; clear e1; subst e2)
          | (go_at_call 74; refine CA.out.mono ?_; rintro e w2 ⟨v2, rfl, o2, a2, b2⟩; have HO2 := hide o2; have HA2 := hide a2; have HB2 := hide b2; obtain ⟨p2, c2, rfl⟩ := owns_shape o2; have hsz2 := a2.size; clear o2 a2 b2)
          | (at_builtin; go_must (refine wpList_append_own_at _ rfl (.tmp 21) (.tmp 24) 30 rfl (w.heap.size + 1) 9 i0 (.string ⟨#[]⟩) 1 16 Tryz.underlying30 HI.out.1 HI.out.2.1 HI.out.2.2.1 HI.out.2.2.2 rfl (by decide) (.slice p2 al.length c2) al.length (al.map Value.string) rfl (owns_below HO2.out (malloc1 _ _)) ⟨w2.heap.size, 0, none⟩ 1 1 [.string (Utf8.encode (R : Int))] rfl rfl (cell_one_new _ _ _) (by simp [Value.oneCell']) (by unfold maxLen; omega) (by omega) (by simp; omega) ?_; intro v7 w7 hown7 hgr7 _ hat7; have HR7 := hide (row_sub HO2.out _ hown7 hgr7 hat7); have HO7 := hide hown7; obtain ⟨p7, c7, rfl⟩ := owns_shape hown7; clear hown7 hgr7 hat7)))
        go_roundg g'
        case measure => omega
        case rel =>
          have hb2 : ∀ b ∈ vblocks (.slice wp wd.length wc), b ∉ vblocks (.slice p2 al.length c2) := fun b hb hm => by
            rcases HB2.out b hm with h | h
            · exact HD.out b hb h
            · have := (own_hi HW.out b hb).2
              omega
          have hp2 : ∀ b ∈ vblocks (.slice p2 al.length c2), w.heap.size + 1 ≤ b := fun b hb => (own_hi HO2.out b hb).1
          have hap : ∀ b ∈ vblocks (.slice ap all.length ac), w.heap.size + 1 ≤ b := fun b hb => (own_hi HA.out b hb).1
          refine ⟨pos + K, al ++ [Utf8.encode (R : Int)], [], ⟨?_, own_nil (owns_keep (owns_keep HW.out HA2.out HD.out) HR7.out.1 hb2), ?_, ?_, ?_, ?_, ?_, hwn⟩, by omega⟩
          · unfold SwOwn
            rw [List.length_append, List.map_append]
            exact HO7.out
          · intro b hb hm
            have hb : b ∈ vblocks (.slice wp wd.length wc) := by cases wp <;> exact hb
            rcases HR7.out.2 b hm with h | h
            · exact hb2 b hb h
            · have := (own_hi HW.out b hb).2
              omega
          · exact (HR7.out.1.block w.heap.size (by omega) (fun hm => by have := hp2 _ hm; omega)).trans ((HA2.out.block w.heap.size hIs (fun hm => by have := hap _ hm; omega)).trans HIT.out)
          · exact (HB.out.trans (HA2.out.below hBs (fun b hb => by have := hap _ hb; omega))).trans (HR7.out.1.below (by omega) (fun b hb => by have := hp2 _ hb; omega))
          · rw [← HAL.out]
            exact HOUT.out hq
          · rw [← HAL.out]
            exact lk_out HLK.out (by omega) hwd _
      · rw [hq] at cS
        have hsm := in_small hq
        have hwr : IntKind.u8.wrap (R : Int) = (R : Int) := by simp [IntKind.wrap, IntKind.bits, IntKind.signed]; omega
        obtain ⟨i0, hi, hz0, hz1, hz2⟩ := info_parts Tryz.infoU8
        have HI := hide (And.intro hi (And.intro hz0 (And.intro hz1 hz2)))
        clear hi hz0 hz1 hz2
        go_wp2_with (first
          | (go_at_call 73; refine cS.out.mono ?_; rintro e w1 ⟨rfl, e1⟩; have e2 := e1.symm; clear e1; subst e2)
          | (at_builtin; go_must (refine wpList_append_own_at _ rfl (.tmp 14) (.tmp 17) 22 rfl (w.heap.size + 1) 5 i0 (.int .u8 0) 1 1 Tryz.underlying22 HI.out.1 HI.out.2.1 HI.out.2.2.1 HI.out.2.2.2 rfl (by decide) (.slice wp wd.length wc) wd.length (List.map (fun c : UInt8 => Value.int .u8 (c.toNat : Int)) wd) rfl (owns_below HW.out (malloc1 _ _)) ⟨W.heap.size, 0, none⟩ 1 1 [.int .u8 (R : Int)] rfl rfl (cell_one_new _ _ _) (by simp [Value.oneCell']) (by unfold maxLen; omega) (by omega) (by simp; omega) ?_; intro v7 w7 hown7 hgr7 _ hat7; have HR7 := hide (row_sub HW.out _ hown7 hgr7 hat7); have HO7 := hide hown7; obtain ⟨p7, c7, rfl⟩ := owns_shape hown7; clear hown7 hgr7 hat7)))
        go_roundg g'
        case measure => omega
        case rel =>
          refine ⟨pos + K, all, wd ++ [UInt8.ofNat R], ⟨owns_keep HA.out HR7.out.1 (fun b hb hm => HD.out b hm hb), ?_, ?_, ?_, ?_, HIN.out hq, lk_in HLK.out hwd _, hwn⟩, by omega⟩
          · unfold ByOwn
            rw [List.length_append, List.map_append, List.map_cons, List.map_nil, u8_of hsm]
            exact HO7.out
          · intro b hb hm
            rcases HR7.out.2 b hb with h | h
            · exact HD.out b h hm
            · have := (own_hi HA.out b hm).2
              omega
          · exact (HR7.out.1.block w.heap.size hIs (fun hm => by have := (own_hi HW.out _ hm).1; omega)).trans HIT.out
          · exact HB.out.trans (HR7.out.1.below hBs (fun b hb => by have := (own_hi HW.out _ hb).1; omega))
    · obtain rfl : pos = s.size := by omega
      have hnx : ∀ ty, (Instr.next (.pointer (some ⟨w.heap.size, 0, none⟩)) true ty).run Tryz.prog wr = _ := fun ty => Lib.run_next_end_at wr w.heap.size s s.size ty HM.it hlt
      have hc1 := HM.lk.cnt
      have hc2 := HM.lk.len
      have hBs := HM.below.size
      have hIs : w.heap.size < wr.heap.size := (Array.getElem?_eq_some_iff.1 HM.it).1
      have hA := HM.ao
      have hW := HM.wo
      have HM := hide HM
      obtain ⟨ap, ac, rfl⟩ := owns_shape hA
      obtain ⟨wp, wc, rfl⟩ := owns_shape hW
      have CA := hide (add_word all wd (.slice ap all.length ac) (.slice wp wd.length wc) wr (w.heap.size + 1) (by split at hc1 <;> omega) (by omega) (by omega) hA hW)
      have HL := hide (And.intro hA (And.intro hc1 hc2))
      clear hA hW hc1 hc2
      go_wp2_with (go_at_call 74; refine CA.out.mono ?_; rintro e w2 ⟨v2, rfl, o2, a2, b2⟩; have HO2 := hide o2; have HA2 := hide a2; have HB2 := hide b2; obtain ⟨p2, c2, rfl⟩ := owns_shape o2; clear o2 a2 b2)
      go_ret
      obtain ⟨hA, hc1, hc2⟩ := HL.out
      refine ⟨_, addW all wd, rfl, own_base HO2.out (by omega), by rw [addW_len]; omega, addW_mz HM.out.lk.mz (by omega), mk_end HM.out.mp, HM.out.below.trans (HA2.out.below hBs (fun b hb => by have := (own_hi hA b hb).1; omega))⟩
end Go.Proofs.YtmjlblbhakppfaaGreatDoor
namespace Go.Proofs.YtmjlblbhakppfaaGreatDoor
open Go.RowKit
set_option linter.unusedSimpArgs false
set_option linter.unusedVariables false

def stS (t : ByteArray) (a : Nat) (l : List Nd) (bad : Bool) : Ss := ⟨t.toList.drop a, l, bad⟩
theorem tl_size (t : ByteArray) : t.toList.length = t.size := by rw [Go.ByteArray.toList_eq]; rfl
theorem is_st (x : List UInt8) (t : ByteArray) (a : Nat) (l : List Nd) (bad : Bool) : isS x (stS t a l bad) = if isQ x t a bad = true then some (stS t (isA x t a bad) l bad) else none := by
  unfold isS isA stS
  cases h : isQ x t a bad
  · have h' : (!bad && x.isPrefixOf (t.toList.drop a)) = false := h
    simp only [h']
    rfl
  · have h' : (!bad && x.isPrefixOf (t.toList.drop a)) = true := h
    simp only [h', if_true, List.drop_drop]
theorem isA_le {x : List UInt8} {t : ByteArray} {a : Nat} {bad : Bool} (h : a ≤ t.size) : isA x t a bad ≤ t.size := by
  unfold isA
  split
  · rename_i hq
    unfold isQ at hq
    simp only [Bool.and_eq_true] at hq
    have := (List.isPrefixOf_iff_prefix.1 hq.2).length_le
    rw [List.length_drop, tl_size] at this
    omega
  · exact h
theorem must_st (x : List UInt8) (t : ByteArray) (a : Nat) (l : List Nd) (bad : Bool) : mustS x (stS t a l bad) = stS t (isA x t a bad) l (!isQ x t a bad) := by
  unfold mustS
  rw [is_st]
  cases h : isQ x t a bad
  · have e : isA x t a bad = a := by unfold isA; rw [h]; rfl
    rw [e]
    rfl
  · have : bad = false := by
      unfold isQ at h
      cases bad
      · rfl
      · cases h
    subst this
    rfl
theorem wd_len_le (t : ByteArray) (a : Nat) : ((t.toList.drop a).takeWhile inW).length ≤ t.size - a := by
  have := (List.takeWhile_sublist (p := inW) (l := t.toList.drop a)).length_le
  rw [List.length_drop, tl_size] at this
  exact this
theorem wdA_le {t : ByteArray} {a : Nat} (h : a ≤ t.size) : wdA t a ≤ t.size := by
  have := wd_len_le t a
  unfold wdA
  omega
theorem dw_drop (r : List UInt8) : r.dropWhile inW = r.drop (r.takeWhile inW).length := by
  have h := List.takeWhile_append_dropWhile (p := inW) (l := r)
  have := congrArg (List.drop (r.takeWhile inW).length) h
  rw [List.drop_left'  rfl] at this
  exact this
theorem sk_st (t : ByteArray) (a : Nat) (l : List Nd) (bad : Bool) : skW (stS t a l bad) = stS t (wdA t a) l bad := by
  unfold skW stS wdA
  dsimp only
  rw [dw_drop, List.drop_drop]
theorem wdS_st (t : ByteArray) (a : Nat) (l : List Nd) (bad : Bool) : wdS (stS t a l bad) = (t.toList.drop a).takeWhile inW := rfl
theorem push_st (n : Nd) (t : ByteArray) (a : Nat) (l : List Nd) (bad : Bool) : pushS n (stS t a l bad) = stS t a (l ++ [n]) bad := rfl
structure SsOk (k : Bool) (s : Ss) : Prop where
  r : s.r.length ≤ 8000
  f : k = true → ∀ n ∈ s.l, n.fit
  n : s.l.length ≤ 42
def SsFine (s : Ss) : Prop := s.bad = false → s.l.length ≤ 41
theorem SsOk.is {k : Bool} {x : List UInt8} {s s' : Ss} (h : SsOk k s) (e : isS x s = some s') : SsOk k s' ∧ s'.l = s.l ∧ s'.bad = s.bad := by
  unfold isS at e
  split at e
  · injection e with e
    subst e
    exact ⟨⟨by dsimp only; rw [List.length_drop]; have := h.r; omega, h.f, h.n⟩, rfl, rfl⟩
  · cases e
theorem SsOk.must {k : Bool} {s : Ss} (h : SsOk k s) (x : List UInt8) : SsOk k (mustS x s) ∧ (mustS x s).l = s.l ∧ ((mustS x s).bad = false → s.bad = false) := by
  unfold mustS
  cases e : isS x s with
  | none => exact ⟨⟨h.r, h.f, h.n⟩, rfl, fun h => by cases h⟩
  | some s' =>
    obtain ⟨h1, h2, h3⟩ := h.is e
    exact ⟨h1, h2, fun hb => by rw [← h3]; exact hb⟩
theorem SsOk.sk {k : Bool} {s : Ss} (h : SsOk k s) : SsOk k (skW s) := ⟨by
  have := (List.dropWhile_sublist (p := inW) (l := s.r)).length_le
  have := h.r
  unfold skW
  dsimp only
  omega, h.f, h.n⟩
theorem SsOk.wd {k : Bool} {s : Ss} (h : SsOk k s) : (ba (wdS s)).size ≤ 1048576 := by
  have := (List.takeWhile_sublist (p := inW) (l := s.r)).length_le
  have := h.r
  rw [sz_ba]
  unfold wdS
  omega
theorem SsOk.push {k : Bool} {s : Ss} (h : SsOk k s) (hl : s.l.length ≤ 41) {n : Nd} (hn : n.fit) : SsOk k (pushS n s) :=
  ⟨h.r, fun hk m hm => by
    rcases List.mem_append.1 (show m ∈ s.l ++ [n] from hm) with hm | hm
    · exact h.f hk m hm
    · simp at hm
      rw [hm]
      exact hn, by show (s.l ++ [n]).length ≤ 42; rw [List.length_append]; simp; omega⟩
theorem fit_noT : noT.size ≤ 1048576 := by show noT.size ≤ _; simp [noT]
theorem case_ok {k : Bool} {go : Ss → Ss} (hg : ∀ s, SsOk k s → SsOk k (go s) ∧ SsFine (go s)) {s : Ss} (h : SsOk k s) (hl : s.l.length ≤ 41) : SsOk k (caseS go s) ∧ SsFine (caseS go s) := by
  unfold caseS
  have h1 := (h.sk.must [40])
  have h2 := h1.1.sk.must [41, 46]
  have e1 : (mustS [41, 46] (skW (mustS [40] (skW s)))).l = s.l := by rw [h2.2.1]; show (mustS [40] (skW s)).l = _; rw [h1.2.1]; rfl
  exact hg _ (h2.1.push (by rw [e1]; exact hl) ⟨h.wd, fit_noT⟩)
theorem loop_ok {k : Bool} {go : Ss → Ss} (hg : ∀ s, SsOk k s → SsOk k (go s) ∧ SsFine (go s)) : ∀ (j many : Nat) (s : Ss), SsOk k s → SsFine s → SsOk k (loopS go j many s).2 ∧ SsFine (loopS go j many s).2
  | 0, _, s, h, h' => ⟨h, h'⟩
  | j + 1, many, s, h, h' => by
    rw [loopS]
    split
    · exact ⟨h, h'⟩
    · rename_i hb
      obtain ⟨c1, c2⟩ := case_ok hg h (h' (by simpa using hb))
      cases e : isS [44] (caseS go s) with
      | none => exact ⟨c1, c2⟩
      | some s' =>
        obtain ⟨d1, d2, d3⟩ := c1.is e
        exact loop_ok hg j (many + 1) s' d1 (fun hb => by rw [d2]; exact c2 (by rw [← d3]; exact hb))
theorem set_fit {l : List Nd} (h : ∀ n ∈ l, n.fit) (i m : Nat) : ∀ n ∈ setMany l i m, n.fit := by
  unfold setMany
  induction l generalizing i with
  | nil => intro n hn; simp at hn
  | cons a l ih =>
    intro n hn
    cases i with
    | zero =>
      rw [List.modify_zero_cons] at hn
      rcases List.mem_cons.1 hn with rfl | hn
      · exact h a List.mem_cons_self
      · exact h n (List.mem_cons_of_mem _ hn)
    | succ i =>
      rw [List.modify_succ_cons] at hn
      rcases List.mem_cons.1 hn with rfl | hn
      · exact h n List.mem_cons_self
      · exact ih (fun x hx => h x (List.mem_cons_of_mem _ hx)) i n hn
theorem set_mlen (l : List Nd) (i m : Nat) : (setMany l i m).length = l.length := by unfold setMany; simp
theorem cases_ok {k : Bool} {go : Ss → Ss} (hg : ∀ s, SsOk k s → SsOk k (go s) ∧ SsFine (go s)) {s : Ss} (h : SsOk k s) (hl : s.l.length ≤ 40) {n : Nd} (hn : n.fit) : SsOk k (casesS go n s) ∧ SsFine (casesS go n s) := by
  have h1 := h.push (n := n) (by omega) hn
  have hf : SsFine (pushS n s) := fun _ => by show (s.l ++ [n]).length ≤ 41; rw [List.length_append]; simp; omega
  obtain ⟨l1, l2⟩ := loop_ok hg 5 0 _ h1 hf
  obtain ⟨m1, m2, m3⟩ := l1.must [125]
  unfold casesS
  refine ⟨⟨m1.r, fun hk => set_fit (l1.f hk) _ _, by dsimp only; rw [set_mlen]; exact l1.n⟩, fun hb => ?_⟩
  show (setMany _ _ _).length ≤ 41
  rw [set_mlen]
  exact l2 (m3 hb)
theorem one_ok {k : Bool} (part : Bool) : ∀ (f : Nat) (s : Ss), SsOk k s → SsOk k (oneS part f s) ∧ SsFine (oneS part f s)
  | 0, s, h => ⟨⟨h.r, h.f, h.n⟩, fun h => by cases h⟩
  | f + 1, s, h => by
    rw [oneS]
    split
    · exact ⟨⟨h.r, h.f, h.n⟩, fun h => by cases h⟩
    · rename_i hb
      have hl : s.l.length ≤ 40 := by simp at hb; omega
      have push1 : ∀ {s : Ss} {n : Nd}, SsOk k s → s.l.length ≤ 40 → n.fit → SsOk k (pushS n s) ∧ SsFine (pushS n s) := fun {s n} h hl hn => ⟨h.push (by omega) hn, fun _ => by show (s.l ++ [n]).length ≤ 41; rw [List.length_append]; simp; omega⟩
      have hS := h.sk
      have hSl : (skW s).l.length ≤ 40 := hl
      split
      · exact push1 hS hSl ⟨fit_noT, fit_noT⟩
      · split
        · have m1 := hS.must [32]
          have p1 := m1.1.sk.push (n := ⟨2, ba (wdS (mustS [32] (skW s))), noT, 0, 0⟩) (by show (mustS [32] (skW s)).l.length ≤ 41; rw [m1.2.1]; omega) ⟨m1.1.wd, fit_noT⟩
          exact one_ok part f _ (p1.must [46]).1
        · have go1 := one_ok (k := k) part f
          split
          · rename_i s2 e
            have e' : isS [62] (skW s) = some s2 := by cases part <;> simp at e; exact e
            obtain ⟨d1, d2, d3⟩ := hS.is e'
            have m := d1.sk.must [123]
            exact cases_ok go1 m.1 (by rw [m.2.1]; show s2.l.length ≤ 40; rw [d2]; exact hSl) ⟨h.wd, d1.wd⟩
          · split
            · rename_i s2 e
              have e' : isS [33, 123] (skW s) = some s2 := by cases part <;> simp at e; exact e
              obtain ⟨d1, d2, d3⟩ := hS.is e'
              exact cases_ok go1 d1 (by rw [d2]; exact hSl) ⟨fit_noT, h.wd⟩
            · split
              · rename_i s2 e
                have e' : isS [63, 123] (skW s) = some s2 := by cases part <;> simp at e; exact e
                obtain ⟨d1, d2, d3⟩ := hS.is e'
                exact cases_ok go1 d1 (by rw [d2]; exact hSl) ⟨fit_noT, h.wd⟩
              · exact push1 hS hSl ⟨h.wd, fit_noT⟩
theorem one_small (part : Bool) {t : ByteArray} (ht : t.size ≤ 8000) : SsOk true (oneS part 11 (stS t 0 [] false)) :=
  (one_ok part 11 _ ⟨by show (t.toList.drop 0).length ≤ 8000; rw [List.length_drop, tl_size]; omega, fun _ n hn => (by cases hn), by show ([] : List Nd).length ≤ 42; simp⟩).1
theorem is_l {x : List UInt8} {s s' : Ss} (e : isS x s = some s') : s'.l = s.l := by
  unfold isS at e
  split at e
  · injection e with e
    subst e
    rfl
  · cases e
theorem must_l (x : List UInt8) (s : Ss) : (mustS x s).l = s.l := by
  unfold mustS
  cases e : isS x s with
  | none => rfl
  | some s' => exact is_l e
theorem case_mono {go : Ss → Ss} (hg : ∀ s, s.l.length ≤ (go s).l.length) (s : Ss) : s.l.length ≤ (caseS go s).l.length := by
  unfold caseS
  refine Nat.le_trans ?_ (hg _)
  show _ ≤ ((mustS [41, 46] (skW (mustS [40] (skW s)))).l ++ _).length
  rw [must_l]
  show _ ≤ ((mustS [40] (skW s)).l ++ _).length
  rw [must_l, List.length_append]
  exact Nat.le_add_right _ _
theorem loop_mono {go : Ss → Ss} (hg : ∀ s, s.l.length ≤ (go s).l.length) : ∀ (j many : Nat) (s : Ss), s.l.length ≤ (loopS go j many s).2.l.length
  | 0, _, s => Nat.le_refl _
  | j + 1, many, s => by
    rw [loopS]
    split
    · exact Nat.le_refl _
    · have h := case_mono hg s
      cases e : isS [44] (caseS go s) with
      | none => exact h
      | some s' =>
        have := loop_mono hg j (many + 1) s'
        rw [is_l e] at this
        exact Nat.le_trans h this
theorem cases_mono {go : Ss → Ss} (hg : ∀ s, s.l.length ≤ (go s).l.length) (n : Nd) (s : Ss) : s.l.length ≤ (casesS go n s).l.length := by
  unfold casesS
  dsimp only
  rw [set_mlen]
  refine Nat.le_trans ?_ (loop_mono hg 5 0 _)
  show _ ≤ (s.l ++ [n]).length
  rw [List.length_append]
  exact Nat.le_add_right _ _
theorem one_mono (part : Bool) : ∀ (f : Nat) (s : Ss), s.l.length ≤ (oneS part f s).l.length
  | 0, s => Nat.le_refl _
  | f + 1, s => by
    have push1 : ∀ (s : Ss) (n : Nd), s.l.length ≤ (pushS n s).l.length := fun s n => by show _ ≤ (s.l ++ [n]).length; rw [List.length_append]; exact Nat.le_add_right _ _
    have go1 := one_mono part f
    rw [oneS]
    split
    · exact Nat.le_refl _
    · split
      · exact push1 (skW s) _
      · split
        · refine Nat.le_trans ?_ (go1 _)
          rw [must_l]
          refine Nat.le_trans ?_ (push1 _ _)
          show _ ≤ (mustS [32] (skW s)).l.length
          rw [must_l]
          exact Nat.le_refl _
        · split
          · rename_i s2 e
            have e' : isS [62] (skW s) = some s2 := by cases part <;> simp at e; exact e
            refine Nat.le_trans ?_ (cases_mono go1 _ _)
            rw [must_l]
            show _ ≤ s2.l.length
            rw [is_l e']
            exact Nat.le_refl _
          · split
            · rename_i s2 e
              have e' : isS [33, 123] (skW s) = some s2 := by cases part <;> simp at e; exact e
              refine Nat.le_trans ?_ (cases_mono go1 _ _)
              rw [is_l e']
              exact Nat.le_refl _
            · split
              · rename_i s2 e
                have e' : isS [63, 123] (skW s) = some s2 := by cases part <;> simp at e; exact e
                refine Nat.le_trans ?_ (cases_mono go1 _ _)
                rw [is_l e']
                exact Nat.le_refl _
              · exact push1 (skW s) _
end Go.Proofs.YtmjlblbhakppfaaGreatDoor
