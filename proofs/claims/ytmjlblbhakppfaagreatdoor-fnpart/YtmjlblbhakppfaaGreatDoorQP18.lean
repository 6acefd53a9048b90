import Derived.Test.YtmjlblbhakppfaaGreatDoorQP16
import Derived.Test.YtmjlblbhakppfaaGreatDoorQP17
namespace Go.Proofs.YtmjlblbhakppfaaGreatDoor
open Go.RowKit

def inW (c : UInt8) : Bool := (decide (97 ≤ c.toNat) && decide (c.toNat ≤ 122)) || (decide (48 ≤ c.toNat) && decide (c.toNat ≤ 57)) || c.toNat == 95
def addW (all : List ByteArray) (w : List UInt8) : List ByteArray := if w.isEmpty then all else all ++ [ba w]
def mkS (s : List ByteArray × List UInt8) (c : UInt8) : List ByteArray × List UInt8 := if inW c then (s.1, s.2 ++ [c]) else (addW s.1 s.2 ++ [ba [c]], [])
def mkE (s : List ByteArray × List UInt8) : List ByteArray := addW s.1 s.2
def mkF (t : List UInt8) : List ByteArray := mkE (t.foldl mkS ([], []))
def flatT (ts : List ByteArray) : List UInt8 := ts.flatMap ByteArray.toList
theorem toL_app (a b : ByteArray) : (a ++ b).toList = a.toList ++ b.toList := by
  rw [Go.ByteArray.toList_eq, Go.ByteArray.toList_eq, Go.ByteArray.toList_eq, ByteArray.data_append, Array.toList_append]
theorem cat_flat (ts : List ByteArray) : (catT ts).toList = flatT ts := by
  induction ts with
  | nil => rw [cat_nil, Go.ByteArray.toList_eq]; rfl
  | cons a ts ih => rw [cat_cons, toL_app, ih]; rfl
theorem ba_toL (x : ByteArray) : ba x.toList = x := tl_inj (ba_list _)
theorem add_nil (all : List ByteArray) : addW all [] = all := rfl
theorem add_some {all : List ByteArray} {w : List UInt8} (h : w ≠ []) : addW all w = all ++ [ba w] := by
  unfold addW
  cases w with
  | nil => exact absurd rfl h
  | cons a w => rfl
theorem add_flat (all : List ByteArray) (w : List UInt8) : flatT (addW all w) = flatT all ++ w := by
  by_cases h : w = []
  · subst h; rw [add_nil, List.append_nil]
  · rw [add_some h, flatT, List.flatMap_append]
    simp [flatT, ba_list]
theorem mk_flat : ∀ (t : List UInt8) (s : List ByteArray × List UInt8), flatT (mkE (t.foldl mkS s)) = flatT s.1 ++ s.2 ++ t := by
  intro t
  induction t with
  | nil => intro s; rw [List.foldl_nil, mkE, add_flat, List.append_nil]
  | cons c t ih =>
    intro s
    rw [List.foldl_cons, ih, mkS]
    split
    · simp
    · dsimp only
      rw [flatT, List.flatMap_append]
      have := add_flat s.1 s.2
      unfold flatT at this
      rw [this]
      simp [flatT, ba_list]
theorem mk_back (t : ByteArray) : catT (mkF t.toList) = t := by
  apply tl_inj
  rw [cat_flat, mkF, mk_flat]
  rfl
def WordT (x : ByteArray) : Prop := x.toList ≠ [] ∧ ∀ c ∈ x.toList, inW c = true
def SignT (x : ByteArray) : Prop := ∃ c : UInt8, x = ba [c] ∧ inW c = false ∧ c.toNat < 128
def SepB : Bool → List ByteArray → Prop
  | _, [] => True
  | was, x :: r => (SignT x ∧ SepB false r) ∨ (was = false ∧ WordT x ∧ SepB true r)
theorem sep_mono {r : List ByteArray} (h : SepB true r) : SepB false r := by
  cases r with
  | nil => trivial
  | cons x r =>
    rcases h with h | ⟨h, _⟩
    · exact .inl h
    · cases h
theorem word_fold : ∀ (w : List UInt8) (s : List ByteArray × List UInt8), (∀ c ∈ w, inW c = true) → w.foldl mkS s = (s.1, s.2 ++ w) := by
  intro w
  induction w with
  | nil => intro s _; rw [List.foldl_nil, List.append_nil]
  | cons c w ih =>
    intro s h
    rw [List.foldl_cons, mkS, if_pos (h c List.mem_cons_self), ih _ (fun x hx => h x (List.mem_cons_of_mem _ hx))]
    simp
theorem sep_marks : ∀ (ts : List ByteArray) (was : Bool) (all : List ByteArray) (w : List UInt8), SepB was ts → (was = false → w = []) → mkE ((flatT ts).foldl mkS (all, w)) = addW all w ++ ts := by
  intro ts
  induction ts with
  | nil => intro was all w _ _; rw [flatT, List.flatMap_nil, List.foldl_nil, List.append_nil]; rfl
  | cons x ts ih =>
    intro was all w h hw
    rw [flatT, List.flatMap_cons, List.foldl_append]
    rcases h with ⟨⟨c, hx, hc, -⟩, hr⟩ | ⟨hf, hx, hr⟩
    · rw [hx, ba_list, List.foldl_cons, List.foldl_nil, mkS, if_neg (by rw [hc]; simp)]
      rw [show List.flatMap ByteArray.toList ts = flatT ts from rfl, ih false _ _ hr (fun _ => rfl), add_nil]
      simp
    · rw [hw hf, word_fold _ _ hx.2, List.nil_append, show List.flatMap ByteArray.toList ts = flatT ts from rfl, ih true _ _ hr (fun h => by cases h), add_some hx.1, ba_toL, add_nil]
      simp
theorem sep_ascii : ∀ (ts : List ByteArray) (was : Bool), SepB was ts → ∀ x ∈ ts, ∀ c ∈ x.toList, c.toNat < 128 := by
  intro ts
  induction ts with
  | nil => intro _ _ x hx; cases hx
  | cons y ts ih =>
    intro was h x hx c hc
    rcases h with ⟨⟨d, hy, hd, hlt⟩, hr⟩ | ⟨-, hy, hr⟩
    · rcases List.mem_cons.1 hx with rfl | hx
      · rw [hy, ba_list] at hc
        simp at hc
        rw [hc]; exact hlt
      · exact ih _ hr x hx c hc
    · rcases List.mem_cons.1 hx with rfl | hx
      · have := hy.2 c hc
        simp only [inW, Bool.or_eq_true, Bool.and_eq_true, decide_eq_true_eq, beq_iff_eq] at this
        omega
      · exact ih _ hr x hx c hc
theorem word_T {x : ByteArray} (h : wordB x = true) : WordT x := by
  refine ⟨wordT_ne h, fun c hc => ?_⟩
  simp only [wordB, nameB, Bool.and_eq_true, List.all_eq_true, List.mem_range] at h
  obtain ⟨j, hj, e⟩ := List.getElem_of_mem hc
  have hs : j < x.size := by
    have : x.toList.length = x.size := by rw [Go.ByteArray.toList_eq]; rfl
    omega
  have h1 := h.1.2 j hs
  have hb : byteAt x j = (c.toNat : Int) := by
    unfold byteAt
    rw [dif_pos hs]
    have : x[j] = c := by
      rw [← e]
      simp only [Go.ByteArray.toList_eq]
      rfl
    rw [this]
  rw [hb] at h1
  simp only [okC, Bool.or_eq_true, Bool.and_eq_true, decide_eq_true_eq, beq_iff_eq] at h1
  simp only [inW, Bool.or_eq_true, Bool.and_eq_true, decide_eq_true_eq, beq_iff_eq]
  omega
theorem sign_T (c : UInt8) (h : inW c = false) (h2 : c.toNat < 128) : SignT (ba [c]) := ⟨c, rfl, h, h2⟩
theorem lit_T {t : List UInt8} (h : t ≠ []) (h2 : ∀ c ∈ t, inW c = true) : WordT (ba t) := ⟨by rw [ba_list]; exact h, by rw [ba_list]; exact h2⟩
theorem sort_T (s : Int) : WordT (sortT s) := by
  unfold sortT
  split
  · exact lit_T (by simp) (by decide)
  · split <;> exact lit_T (by simp) (by decide)
def SepOf (ts : List ByteArray) : Prop := ∀ ms, SepB true ms → SepB false (ts ++ ms)
def SepsOf (go : List Nd → Option (List Nd)) (tf : List Nd → List ByteArray × List Nd) : Prop := ∀ l r, go l = some r → SepOf (tf l).1 ∧ (tf l).2 = r
theorem kids_sep {go : List Nd → Option (List Nd)} {tf : List Nd → List ByteArray × List Nd} (hg : SepsOf go tf) : ∀ (m : Nat) (ls : List ByteArray) (l r : List Nd), kidsBy go (m + 1) ls l = some r → SepOf (joinT (casesT tf (m + 1) l).1) ∧ (casesT tf (m + 1) l).1 ≠ [] := by
  have one : ∀ (c : Nd) (ts ms : List ByteArray), caseB c = true → SepOf ts → SepB true ms → SepB false ((tokC c ++ ts) ++ ms) := fun c ts ms hc ht hm => by
    simp only [caseB, Bool.and_eq_true, beq_iff_eq] at hc
    rw [List.append_assoc]
    show SepB false (c.name :: ba [40] :: sortT c.sort :: ba [41] :: ba [46] :: (ts ++ ms))
    exact .inr ⟨rfl, word_T hc.1.2, .inl ⟨sign_T _ (by decide) (by decide), .inr ⟨rfl, sort_T _, .inl ⟨sign_T _ (by decide) (by decide), .inl ⟨sign_T _ (by decide) (by decide), ht ms hm⟩⟩⟩⟩⟩
  intro m
  induction m with
  | zero =>
    intro ls l r h
    cases l with
    | nil => cases h
    | cons c l =>
      rw [kidsBy] at h
      split at h
      · rename_i hc
        simp only [Bool.and_eq_true] at hc
        split at h
        · cases h
        · rename_i r' hr'
          rw [casesT, casesT]
          exact ⟨fun ms hm => one c _ ms hc.1 (hg _ _ hr').1 hm, by simp⟩
      · cases h
  | succ m ih =>
    intro ls l r h
    cases l with
    | nil => cases h
    | cons c l =>
      rw [kidsBy] at h
      split at h
      · rename_i hc
        simp only [Bool.and_eq_true] at hc
        split at h
        · cases h
        · rename_i r' hr'
          obtain ⟨e1, e2⟩ := hg _ _ hr'
          obtain ⟨k1, k2⟩ := ih _ _ _ h
          rw [casesT, e2]
          refine ⟨fun ms hm => ?_, by simp⟩
          dsimp only
          cases hcs : (casesT tf (m + 1) r').1 with
          | nil => exact absurd hcs k2
          | cons u us =>
            rw [joinT, ← hcs, List.append_assoc]
            exact one c _ _ hc.1 e1 (.inl ⟨sign_T _ (by decide) (by decide), k1 ms hm⟩)
      · cases h
theorem ahead_sep (part : Bool) : ∀ (f : Nat) (st : List Nd), StWord st → SepsOf (ahead (talkS part) f st) (tokF f) := by
  have hend : SepOf [ba [101, 110, 100]] := fun ms hm => .inr ⟨rfl, lit_T (by simp) (by decide), hm⟩
  intro f
  induction f with
  | zero =>
    intro st hw l r h
    have h2 := (ahead_reads part 0 st hw l r h).1
    refine ⟨?_, h2⟩
    cases l with
    | nil => cases h
    | cons n l =>
      rw [ahead] at h
      split at h
      · rename_i h0
        rw [beq_iff_eq] at h0
        rw [tokF, if_neg (by rw [beq_iff_eq]; omega)]
        exact hend
      · split at h
        · rename_i h1
          split at h
          · rename_i hv
            simp only [Bool.and_eq_true] at hv
            rw [tokF, if_pos h1]
            exact fun ms hm => .inr ⟨rfl, word_T (back_word st false n.name hw hv.2), hm⟩
          · cases h
        · cases h
  | succ f ih =>
    intro st hw l r h
    have h2 := (ahead_reads part (f + 1) st hw l r h).1
    refine ⟨?_, h2⟩
    cases l with
    | nil => cases h
    | cons n l =>
      rw [ahead] at h
      split at h
      · rename_i h0
        rw [tokF, if_pos h0]
        exact hend
      · rename_i h0
        split at h
        · rename_i h1
          split at h
          · rename_i hv
            simp only [Bool.and_eq_true] at hv
            rw [tokF, if_neg h0, if_pos h1]
            exact fun ms hm => .inr ⟨rfl, word_T (back_word st false n.name hw hv.2), hm⟩
          · cases h
        · rename_i h1
          split at h
          · rename_i h2
            split at h
            · rename_i hv
              simp only [Bool.and_eq_true] at hv
              obtain ⟨e, hwd⟩ := rec_is hv.1
              obtain ⟨e1, -⟩ := ih (n :: st) (fun x hx ho => by rcases List.mem_cons.1 hx with rfl | hx; exact hwd; exact hw x hx ho) _ _ h
              rw [tokF, if_neg h0, if_neg h1, if_pos h2]
              rw [beq_iff_eq] at h2
              have et : tokS n = [ba [114, 101, 99], ba [32], n.name, ba [46]] := by unfold tokS; rw [if_neg (by omega), if_neg (by omega), if_pos h2]
              rw [et]
              exact fun ms hm => .inr ⟨rfl, lit_T (by simp) (by decide), .inl ⟨sign_T _ (by decide) (by decide), .inr ⟨rfl, word_T hwd, .inl ⟨sign_T _ (by decide) (by decide), e1 ms hm⟩⟩⟩⟩
            · cases h
          · rename_i h2
            split at h
            · rename_i hT
              obtain ⟨t1, ⟨m, t2⟩, t3, t4⟩ := talk_is hT
              have hm : n.many.toNat = m + 1 := by omega
              rw [hm] at h
              rw [beq_iff_eq] at h2
              obtain ⟨k1, -⟩ := kids_sep (ih (n :: st) (fun x hx ho => by rcases List.mem_cons.1 hx with rfl | hx; exact absurd ho h2; exact hw x hx ho)) m [] l r h
              rw [tokF, if_neg h0, if_neg h1, if_neg (by rw [beq_iff_eq]; exact h2), hm]
              intro ms hms
              dsimp only
              rw [List.append_assoc, List.append_assoc]
              have hin : SepB false (joinT (casesT (tokF f) (m + 1) l).1 ++ ([ba [125]] ++ ms)) := k1 _ (.inl ⟨sign_T _ (by decide) (by decide), sep_mono hms⟩)
              rcases t4 with ⟨a, b⟩ | ⟨a, b, c⟩ | ⟨a, b, c⟩
              · have e : tokS n = [n.name, ba [62], n.peer, ba [123]] := by unfold tokS; rw [if_neg (by omega), if_neg (by omega), if_neg (by omega), if_neg (by omega), if_neg (by omega)]
                rw [e]
                exact .inr ⟨rfl, word_T b, .inl ⟨sign_T _ (by decide) (by decide), .inr ⟨rfl, word_T t3, .inl ⟨sign_T _ (by decide) (by decide), hin⟩⟩⟩⟩
              · have e : tokS n = [n.peer, ba [33], ba [123]] := by unfold tokS; rw [if_neg (by omega), if_neg (by omega), if_neg (by omega), if_pos a]
                rw [e]
                exact .inr ⟨rfl, word_T t3, .inl ⟨sign_T _ (by decide) (by decide), .inl ⟨sign_T _ (by decide) (by decide), hin⟩⟩⟩
              · have e : tokS n = [n.peer, ba [63], ba [123]] := by unfold tokS; rw [if_neg (by omega), if_neg (by omega), if_neg (by omega), if_neg (by omega), if_pos a]
                rw [e]
                exact .inr ⟨rfl, word_T t3, .inl ⟨sign_T _ (by decide) (by decide), .inl ⟨sign_T _ (by decide) (by decide), hin⟩⟩⟩
            · cases h
theorem text_marks {part : Bool} {ns : List Nd} (h : rightB part ns = true) : mkF (textF 10 ns).1.toList = (tokF 10 ns).1 ∧ (textF 10 ns).1 = catT (tokF 10 ns).1 ∧ ∀ x ∈ (tokF 10 ns).1, ∀ c ∈ x.toList, c.toNat < 128 := by
  have h' := h
  simp only [rightB, Bool.and_eq_true, beq_iff_eq] at h
  have h1 := h.2.1
  cases ha : ahead (talkS part) 10 [] ns with
  | none => rw [ha] at h1; cases h1
  | some r =>
    obtain ⟨e1, e2⟩ := ahead_sep part 10 [] (fun n hn => by cases hn) _ _ ha
    have hs := e1 [] trivial
    rw [List.append_nil] at hs
    have et : (textF 10 ns).1 = catT (tokF 10 ns).1 := by rw [tok_text]
    refine ⟨?_, et, sep_ascii _ _ hs⟩
    rw [et, cat_flat, mkF, sep_marks _ false [] [] hs (fun _ => rfl)]
    rfl
end Go.Proofs.YtmjlblbhakppfaaGreatDoor
namespace Go.Proofs.YtmjlblbhakppfaaGreatDoor
open Go.RowKit

def mzB (ms : List ByteArray) : Prop := ∀ m ∈ ms, m.size ≤ 8000
def lzB (l : List Nd) : Prop := ∀ n ∈ l, n.name.size ≤ 8000 ∧ n.peer.size ≤ 8000
theorem mz_tail {ms : List ByteArray} (h : mzB ms) : mzB ms.tail := fun m hm => h m (List.mem_of_mem_tail hm)
theorem mz_sk {t : List UInt8} {ms ms' : List ByteArray} (h : mzB ms) (hs : skM t ms = some ms') : mzB ms' := fun m hm => h m (by rw [skM_some hs]; exact List.mem_cons_of_mem _ hm)
theorem mz_hd {ms : List ByteArray} (h : mzB ms) : (hdM ms).size ≤ 8000 := by
  cases ms with
  | nil => exact Nat.zero_le _
  | cons a ms => exact h a List.mem_cons_self
theorem noT_sz : noT.size ≤ 8000 := Nat.zero_le _
theorem lz_snoc {l : List Nd} (h : lzB l) {n : Nd} (h1 : n.name.size ≤ 8000) (h2 : n.peer.size ≤ 8000) : lzB (l ++ [n]) := fun x hx => by
  rcases List.mem_append.1 hx with hx | hx
  · exact h x hx
  · simp at hx; subst hx; exact ⟨h1, h2⟩
theorem lz_bump {l : List Nd} (h : lzB l) (i : Nat) : lzB (bump l i) := fun x hx => by
  obtain ⟨j, hj, rfl⟩ := List.getElem_of_mem hx
  have hj' : j < l.length := by rwa [bump_len] at hj
  rw [bump_get l i j hj']
  split
  · exact h l[j] (List.getElem_mem hj')
  · exact h l[j] (List.getElem_mem hj')
theorem start_sz {ms : List ByteArray} {l : List Nd} {op : List Nat} {s' : Rs} (hm : mzB ms) (hl : lzB l) (h : startS ms l op = .inr s') : mzB s'.ms ∧ lzB s'.l := by
  have key : ∀ ms2 n, mzB ms2 → n.name.size ≤ 8000 → n.peer.size ≤ 8000 → talkTo ms2 l op n = .inr s' → mzB s'.ms ∧ lzB s'.l := fun ms2 n h1 h2 h3 h4 => by
    unfold talkTo at h4
    split at h4
    · rename_i ms3 h5
      injection h4 with h4
      subst h4
      exact ⟨mz_sk h1 h5, lz_snoc hl h2 h3⟩
    · cases h4
  unfold startS at h
  split at h
  · injection h with h
    subst h
    exact ⟨mz_tail hm, lz_snoc hl noT_sz noT_sz⟩
  · split at h
    · rename_i ms2 h2
      split at h2
      · split at h
        · rename_i ms3 h3
          injection h with h
          subst h
          exact ⟨mz_sk (mz_tail (mz_sk (mz_tail hm) h2)) h3, lz_snoc hl (mz_hd (mz_sk (mz_tail hm) h2)) noT_sz⟩
        · cases h
      · cases h2
    · split at h
      · rename_i ms2 h2
        exact key _ _ (mz_tail (mz_sk (mz_tail hm) h2)) (mz_hd hm) (mz_hd (mz_sk (mz_tail hm) h2)) h
      · split at h
        · rename_i ms2 h2
          exact key _ _ (mz_sk (mz_tail hm) h2) noT_sz (mz_hd hm) h
        · split at h
          · rename_i ms2 h2
            exact key _ _ (mz_sk (mz_tail hm) h2) noT_sz (mz_hd hm) h
          · injection h with h
            subst h
            exact ⟨mz_tail hm, lz_snoc hl (mz_hd hm) noT_sz⟩
theorem label_sz {ms : List ByteArray} {l : List Nd} {op : List Nat} {s' : Rs} (hm : mzB ms) (hl : lzB l) (h : labelS ms l op = .inr s') : mzB s'.ms ∧ lzB s'.l := by
  unfold labelS at h
  split at h
  · rename_i ms2 h2
    split at h
    · rename_i ms3 h3
      split at h
      · rename_i ms4 h4
        injection h with h
        subst h
        exact ⟨mz_sk (mz_sk (mz_tail (mz_sk (mz_tail hm) h2)) h3) h4, lz_snoc (lz_bump hl _) (mz_hd hm) noT_sz⟩
      · cases h
    · cases h
  · cases h
structure RwP (s : Rs) : Prop where
  ok : OkR s
  l1 : s.l.length + measR s ≤ 30000
  l2 : s.op.length + measR s ≤ 30000
  mz : mzB s.ms
  lz : lzB s.l
  mn : ∀ n ∈ s.l, 0 ≤ n.many ∧ n.many + (measR s : Int) ≤ 30000
theorem next_len {k : Nat} {op : List Nat} {n : Nd} : (nextO k op n).length ≤ op.length + 1 := by
  unfold nextO
  split
  · omega
  · split
    · omega
    · split
      · omega
      · simp
theorem rwp_step {s s' : Rs} (h : RwP s) (hs : stepR s = .inr s') : RwP s' := by
  have hm := step_meas hs
  have hok := ok_step h.ok hs
  have h1 := h.l1
  have h2 := h.l2
  by_cases h0 : s.pos = 0
  · rw [step_start h0] at hs
    obtain ⟨n, hn0, -, hl, hp, ho, -⟩ := start_tok hs
    obtain ⟨z1, z2⟩ := start_sz h.mz h.lz hs
    refine ⟨hok, by rw [hl, List.length_append]; simp; omega, ?_, z1, z2, fun x hx => ?_⟩
    · have := next_len (k := s.l.length) (op := s.op) (n := n)
      rw [ho]
      omega
    · rw [hl] at hx
      rcases List.mem_append.1 hx with hx | hx
      · have := h.mn x hx; omega
      · simp at hx; subst hx; omega
  · by_cases h1' : s.pos = 1
    · rw [step_label h1'] at hs
      obtain ⟨n, -, hn0, hl, hp, ho, -⟩ := label_tok hs
      obtain ⟨z1, z2⟩ := label_sz h.mz h.lz hs
      refine ⟨hok, by rw [hl, List.length_append, bump_len]; simp; omega, by rw [ho]; omega, z1, z2, fun x hx => ?_⟩
      rw [hl] at hx
      rcases List.mem_append.1 hx with hx | hx
      · obtain ⟨j, hj, rfl⟩ := List.getElem_of_mem hx
        have hj' : j < s.l.length := by rwa [bump_len] at hj
        have := h.mn s.l[j] (List.getElem_mem hj')
        rw [bump_get s.l _ j hj']
        split
        · dsimp only; omega
        · omega
      · simp at hx; subst hx; omega
    · rw [step_behind h0 h1'] at hs
      obtain ⟨o, op', e, h' | h'⟩ := behind_inr hs
      · have hz : mzB s'.ms := fun m hm => h.mz m (by rw [h'.1]; exact List.mem_cons_of_mem _ hm)
        have e1 : s'.l = s.l := by rw [h'.2]
        have e2 : s'.op = s.op := by rw [h'.2]
        exact ⟨hok, by rw [e1]; omega, by rw [e2]; omega, hz, by rw [e1]; exact h.lz, fun x hx => by rw [e1] at hx; have := h.mn x hx; omega⟩
      · have hz : mzB s'.ms := fun m hm => h.mz m (by rw [h'.1]; exact List.mem_cons_of_mem _ hm)
        have e1 : s'.l = s.l := by rw [h'.2]
        have e2 : s'.op = op' := by rw [h'.2]
        have e3 : op'.length ≤ s.op.length := by rw [e]; simp
        exact ⟨hok, by rw [e1]; omega, by rw [e2]; omega, hz, by rw [e1]; exact h.lz, fun x hx => by rw [e1] at hx; have := h.mn x hx; omega⟩
end Go.Proofs.YtmjlblbhakppfaaGreatDoor
namespace Go.Proofs.YtmjlblbhakppfaaGreatDoor
open Go.RowKit

theorem stext_calls (part : Bool) (f : Nat) : STextCalls part f := by
  induction f with
  | zero =>
    intro st all r pos a v w hlen hst ha hpos h40 hr hx
    subst ha
    have hpl : pos < all.length := by
      rcases Nat.lt_or_ge pos all.length with h | h
      · exact h
      · rw [List.drop_of_length_le h] at hr; cases hr
    cases hn : all[pos] with
    | mk op name peer many sort =>
      by_cases o0 : op = 0
      · subst o0; exact stext0 part 0 st all r pos v w hst hpl h40 many sort name peer hn hr hx
      · by_cases o1 : op = 1
        · subst o1; exact stext1 part 0 st all r pos v w hst hpl h40 many sort name peer hn hr hx
        · rw [drop_cons hpl, hn, ahead_t0 o0 o1] at hr; cases hr
  | succ f ih =>
    intro st all r pos a v w hlen hst ha hpos h40 hr hx
    subst ha
    have hpl : pos < all.length := by
      rcases Nat.lt_or_ge pos all.length with h | h
      · exact h
      · rw [List.drop_of_length_le h] at hr; cases hr
    cases hn : all[pos] with
    | mk op name peer many sort =>
      by_cases o0 : op = 0
      · subst o0; exact stext0 part (f + 1) st all r pos v w hst hpl h40 many sort name peer hn hr hx
      · by_cases o1 : op = 1
        · subst o1; exact stext1 part (f + 1) st all r pos v w hst hpl h40 many sort name peer hn hr hx
        · by_cases o2 : op = 2
          · subst o2; exact stext2 part f ih st all r pos v w hlen hst hpl h40 many sort name peer hn hr hx
          · by_cases o3 : op = 3
            · subst o3; exact stext3 part f ih st all r pos v w hlen hst hpl h40 many sort name peer hn hr hx
            · by_cases o5 : op = 5
              · subst o5; exact stext5 part f ih st all r pos v w hlen hst hpl h40 many sort name peer hn hr hx
              · by_cases o6 : op = 6
                · subst o6; exact stext6 part f ih st all r pos v w hlen hst hpl h40 many sort name peer hn hr hx
                · exfalso
                  rw [drop_cons hpl, hn, ahead_x o0 o1 o2 (by cases part <;> simp [talkS, o3, o5, o6])] at hr
                  cases hr
end Go.Proofs.YtmjlblbhakppfaaGreatDoor
