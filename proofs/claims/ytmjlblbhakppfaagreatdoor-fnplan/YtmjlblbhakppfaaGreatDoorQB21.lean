/- Marks of a text: cut byte by byte; the text of a right row has just its marks. -/
import Derived.Test.YtmjlblbhakppfaaGreatDoorQB18
import Derived.Test.YtmjlblbhakppfaaGreatDoorQB19
import Derived.Test.YtmjlblbhakppfaaGreatDoorQB20
import Derived.Test.YtmjlblbhakppfaaGreatDoorQB00
import Derived.Sort.OwnSorted
namespace Go.Proofs.YtmjlblbhakppfaaGreatDoor
open Go.RowKit

/-- a byte of a word -/
def inW (c : UInt8) : Bool := (decide (97 ≤ c.toNat) && decide (c.toNat ≤ 122)) || (decide (48 ≤ c.toNat) && decide (c.toNat ≤ 57)) || c.toNat == 95
def addW (all : List ByteArray) (w : List UInt8) : List ByteArray := if w.isEmpty then all else all ++ [ba w]
def mkS (s : List ByteArray × List UInt8) (c : UInt8) : List ByteArray × List UInt8 := if inW c then (s.1, s.2 ++ [c]) else (addW s.1 s.2 ++ [ba [c]], [])
def mkE (s : List ByteArray × List UInt8) : List ByteArray := addW s.1 s.2
/-- the marks of a text of ASCII bytes -/
def mkF (t : List UInt8) : List ByteArray := mkE (t.foldl mkS ([], []))
def flatT (ts : List ByteArray) : List UInt8 := ts.flatMap ByteArray.toList
theorem toL_app (a b : ByteArray) : (a ++ b).toList = a.toList ++ b.toList := by
  rw [Go.ByteArray.toList_eq, Go.ByteArray.toList_eq, Go.ByteArray.toList_eq, ByteArray.data_append, Array.toList_append]
theorem cat_flat (ts : List ByteArray) : (catT ts).toList = flatT ts := by
  induction ts with
  | nil => rw [cat_nil, Go.ByteArray.toList_eq]; rfl
  | cons a ts ih => rw [cat_cons, toL_app, ih]; rfl
theorem ba_toL (x : ByteArray) : ba x.toList = x := tl_inj (ba_list _)
theorem add_nil (all : List ByteArray) : addW all [] = all := rfl
theorem add_some {all : List ByteArray} {w : List UInt8} (h : w ≠ []) : addW all w = all ++ [ba w] := by
  unfold addW
  cases w with
  | nil => exact absurd rfl h
  | cons a w => rfl
theorem add_flat (all : List ByteArray) (w : List UInt8) : flatT (addW all w) = flatT all ++ w := by
  by_cases h : w = []
  · subst h; rw [add_nil, List.append_nil]
  · rw [add_some h, flatT, List.flatMap_append]
    simp [flatT, ba_list]
theorem mk_flat : ∀ (t : List UInt8) (s : List ByteArray × List UInt8), flatT (mkE (t.foldl mkS s)) = flatT s.1 ++ s.2 ++ t := by
  intro t
  induction t with
  | nil => intro s; rw [List.foldl_nil, mkE, add_flat, List.append_nil]
  | cons c t ih =>
    intro s
    rw [List.foldl_cons, ih, mkS]
    split
    · simp
    · dsimp only
      rw [flatT, List.flatMap_append]
      have := add_flat s.1 s.2
      unfold flatT at this
      rw [this]
      simp [flatT, ba_list]
/-- a text is its marks, put together -/
theorem mk_back (t : ByteArray) : catT (mkF t.toList) = t := by
  apply tl_inj
  rw [cat_flat, mkF, mk_flat]
  rfl
def WordT (x : ByteArray) : Prop := x.toList ≠ [] ∧ ∀ c ∈ x.toList, inW c = true
def SignT (x : ByteArray) : Prop := ∃ c : UInt8, x = ba [c] ∧ inW c = false ∧ c.toNat < 128
/-- no two words beside each other; was: a word stands ahead -/
def SepB : Bool → List ByteArray → Prop
  | _, [] => True
  | was, x :: r => (SignT x ∧ SepB false r) ∨ (was = false ∧ WordT x ∧ SepB true r)
theorem sep_mono {r : List ByteArray} (h : SepB true r) : SepB false r := by
  cases r with
  | nil => trivial
  | cons x r =>
    rcases h with h | ⟨h, _⟩
    · exact .inl h
    · cases h
theorem word_fold : ∀ (w : List UInt8) (s : List ByteArray × List UInt8), (∀ c ∈ w, inW c = true) → w.foldl mkS s = (s.1, s.2 ++ w) := by
  intro w
  induction w with
  | nil => intro s _; rw [List.foldl_nil, List.append_nil]
  | cons c w ih =>
    intro s h
    rw [List.foldl_cons, mkS, if_pos (h c List.mem_cons_self), ih _ (fun x hx => h x (List.mem_cons_of_mem _ hx))]
    simp
theorem sep_marks : ∀ (ts : List ByteArray) (was : Bool) (all : List ByteArray) (w : List UInt8), SepB was ts → (was = false → w = []) → mkE ((flatT ts).foldl mkS (all, w)) = addW all w ++ ts := by
  intro ts
  induction ts with
  | nil => intro was all w _ _; rw [flatT, List.flatMap_nil, List.foldl_nil, List.append_nil]; rfl
  | cons x ts ih =>
    intro was all w h hw
    rw [flatT, List.flatMap_cons, List.foldl_append]
    rcases h with ⟨⟨c, hx, hc, -⟩, hr⟩ | ⟨hf, hx, hr⟩
    · rw [hx, ba_list, List.foldl_cons, List.foldl_nil, mkS, if_neg (by rw [hc]; simp)]
      rw [show List.flatMap ByteArray.toList ts = flatT ts from rfl, ih false _ _ hr (fun _ => rfl), add_nil]
      simp
    · rw [hw hf, word_fold _ _ hx.2, List.nil_append, show List.flatMap ByteArray.toList ts = flatT ts from rfl, ih true _ _ hr (fun h => by cases h), add_some hx.1, ba_toL, add_nil]
      simp
theorem sep_ascii : ∀ (ts : List ByteArray) (was : Bool), SepB was ts → ∀ x ∈ ts, ∀ c ∈ x.toList, c.toNat < 128 := by
  intro ts
  induction ts with
  | nil => intro _ _ x hx; cases hx
  | cons y ts ih =>
    intro was h x hx c hc
    rcases h with ⟨⟨d, hy, hd, hlt⟩, hr⟩ | ⟨-, hy, hr⟩
    · rcases List.mem_cons.1 hx with rfl | hx
      · rw [hy, ba_list] at hc
        simp at hc
        rw [hc]; exact hlt
      · exact ih _ hr x hx c hc
    · rcases List.mem_cons.1 hx with rfl | hx
      · have := hy.2 c hc
        simp only [inW, Bool.or_eq_true, Bool.and_eq_true, decide_eq_true_eq, beq_iff_eq] at this
        omega
      · exact ih _ hr x hx c hc
/-! ### the marks of a right row -/
theorem word_T {x : ByteArray} (h : wordB x = true) : WordT x := by
  refine ⟨wordT_ne h, fun c hc => ?_⟩
  simp only [wordB, nameB, Bool.and_eq_true, List.all_eq_true, List.mem_range] at h
  obtain ⟨j, hj, e⟩ := List.getElem_of_mem hc
  have hs : j < x.size := by
    have : x.toList.length = x.size := by rw [Go.ByteArray.toList_eq]; rfl
    omega
  have h1 := h.1.2 j hs
  have hb : byteAt x j = (c.toNat : Int) := by
    unfold byteAt
    rw [dif_pos hs]
    have : x[j] = c := by
      rw [← e]
      simp only [Go.ByteArray.toList_eq]
      rfl
    rw [this]
  rw [hb] at h1
  simp only [okC, Bool.or_eq_true, Bool.and_eq_true, decide_eq_true_eq, beq_iff_eq] at h1
  simp only [inW, Bool.or_eq_true, Bool.and_eq_true, decide_eq_true_eq, beq_iff_eq]
  omega
theorem sign_T (c : UInt8) (h : inW c = false) (h2 : c.toNat < 128) : SignT (ba [c]) := ⟨c, rfl, h, h2⟩
theorem lit_T {t : List UInt8} (h : t ≠ []) (h2 : ∀ c ∈ t, inW c = true) : WordT (ba t) := ⟨by rw [ba_list]; exact h, by rw [ba_list]; exact h2⟩
theorem sort_T (s : Int) : WordT (sortT s) := by
  unfold sortT
  split
  · exact lit_T (by simp) (by decide)
  · split <;> exact lit_T (by simp) (by decide)
/-- it may stand where a word may, and a sign or nothing behind it -/
def SepOf (ts : List ByteArray) : Prop := ∀ ms, SepB true ms → SepB false (ts ++ ms)
def SepsOf (go : List Nd → Option (List Nd)) (tf : List Nd → List ByteArray × List Nd) : Prop := ∀ l r, go l = some r → SepOf (tf l).1 ∧ (tf l).2 = r
theorem kids_sep {go : List Nd → Option (List Nd)} {tf : List Nd → List ByteArray × List Nd} (hg : SepsOf go tf) : ∀ (m : Nat) (ls : List ByteArray) (l r : List Nd), kidsBy go (m + 1) ls l = some r → SepOf (joinT (casesT tf (m + 1) l).1) ∧ (casesT tf (m + 1) l).1 ≠ [] := by
  have one : ∀ (c : Nd) (ts ms : List ByteArray), caseB c = true → SepOf ts → SepB true ms → SepB false ((tokC c ++ ts) ++ ms) := fun c ts ms hc ht hm => by
    simp only [caseB, Bool.and_eq_true, beq_iff_eq] at hc
    rw [List.append_assoc]
    show SepB false (c.name :: ba [40] :: sortT c.sort :: ba [41] :: ba [46] :: (ts ++ ms))
    exact .inr ⟨rfl, word_T hc.1.2, .inl ⟨sign_T _ (by decide) (by decide), .inr ⟨rfl, sort_T _, .inl ⟨sign_T _ (by decide) (by decide), .inl ⟨sign_T _ (by decide) (by decide), ht ms hm⟩⟩⟩⟩⟩
  intro m
  induction m with
  | zero =>
    intro ls l r h
    cases l with
    | nil => cases h
    | cons c l =>
      rw [kidsBy] at h
      split at h
      · rename_i hc
        simp only [Bool.and_eq_true] at hc
        split at h
        · cases h
        · rename_i r' hr'
          rw [casesT, casesT]
          exact ⟨fun ms hm => one c _ ms hc.1 (hg _ _ hr').1 hm, by simp⟩
      · cases h
  | succ m ih =>
    intro ls l r h
    cases l with
    | nil => cases h
    | cons c l =>
      rw [kidsBy] at h
      split at h
      · rename_i hc
        simp only [Bool.and_eq_true] at hc
        split at h
        · cases h
        · rename_i r' hr'
          obtain ⟨e1, e2⟩ := hg _ _ hr'
          obtain ⟨k1, k2⟩ := ih _ _ _ h
          rw [casesT, e2]
          refine ⟨fun ms hm => ?_, by simp⟩
          dsimp only
          cases hcs : (casesT tf (m + 1) r').1 with
          | nil => exact absurd hcs k2
          | cons u us =>
            rw [joinT, ← hcs, List.append_assoc]
            exact one c _ _ hc.1 e1 (.inl ⟨sign_T _ (by decide) (by decide), k1 ms hm⟩)
      · cases h
theorem ahead_sep (part : Bool) : ∀ (f : Nat) (st : List Nd), StWord st → SepsOf (ahead (talkS part) f st) (tokF f) := by
  have hend : SepOf [ba [101, 110, 100]] := fun ms hm => .inr ⟨rfl, lit_T (by simp) (by decide), hm⟩
  intro f
  induction f with
  | zero =>
    intro st hw l r h
    have h2 := (ahead_reads part 0 st hw l r h).1
    refine ⟨?_, h2⟩
    cases l with
    | nil => cases h
    | cons n l =>
      rw [ahead] at h
      split at h
      · rename_i h0
        rw [beq_iff_eq] at h0
        rw [tokF, if_neg (by rw [beq_iff_eq]; omega)]
        exact hend
      · split at h
        · rename_i h1
          split at h
          · rename_i hv
            simp only [Bool.and_eq_true] at hv
            rw [tokF, if_pos h1]
            exact fun ms hm => .inr ⟨rfl, word_T (back_word st false n.name hw hv.2), hm⟩
          · cases h
        · cases h
  | succ f ih =>
    intro st hw l r h
    have h2 := (ahead_reads part (f + 1) st hw l r h).1
    refine ⟨?_, h2⟩
    cases l with
    | nil => cases h
    | cons n l =>
      rw [ahead] at h
      split at h
      · rename_i h0
        rw [tokF, if_pos h0]
        exact hend
      · rename_i h0
        split at h
        · rename_i h1
          split at h
          · rename_i hv
            simp only [Bool.and_eq_true] at hv
            rw [tokF, if_neg h0, if_pos h1]
            exact fun ms hm => .inr ⟨rfl, word_T (back_word st false n.name hw hv.2), hm⟩
          · cases h
        · rename_i h1
          split at h
          · rename_i h2
            split at h
            · rename_i hv
              simp only [Bool.and_eq_true] at hv
              obtain ⟨e, hwd⟩ := rec_is hv.1
              obtain ⟨e1, -⟩ := ih (n :: st) (fun x hx ho => by rcases List.mem_cons.1 hx with rfl | hx; exact hwd; exact hw x hx ho) _ _ h
              rw [tokF, if_neg h0, if_neg h1, if_pos h2]
              rw [beq_iff_eq] at h2
              have et : tokS n = [ba [114, 101, 99], ba [32], n.name, ba [46]] := by unfold tokS; rw [if_neg (by omega), if_neg (by omega), if_pos h2]
              rw [et]
              exact fun ms hm => .inr ⟨rfl, lit_T (by simp) (by decide), .inl ⟨sign_T _ (by decide) (by decide), .inr ⟨rfl, word_T hwd, .inl ⟨sign_T _ (by decide) (by decide), e1 ms hm⟩⟩⟩⟩
            · cases h
          · rename_i h2
            split at h
            · rename_i hT
              obtain ⟨t1, ⟨m, t2⟩, t3, t4⟩ := talk_is hT
              have hm : n.many.toNat = m + 1 := by omega
              rw [hm] at h
              rw [beq_iff_eq] at h2
              obtain ⟨k1, -⟩ := kids_sep (ih (n :: st) (fun x hx ho => by rcases List.mem_cons.1 hx with rfl | hx; exact absurd ho h2; exact hw x hx ho)) m [] l r h
              rw [tokF, if_neg h0, if_neg h1, if_neg (by rw [beq_iff_eq]; exact h2), hm]
              intro ms hms
              dsimp only
              rw [List.append_assoc, List.append_assoc]
              have hin : SepB false (joinT (casesT (tokF f) (m + 1) l).1 ++ ([ba [125]] ++ ms)) := k1 _ (.inl ⟨sign_T _ (by decide) (by decide), sep_mono hms⟩)
              rcases t4 with ⟨a, b⟩ | ⟨a, b, c⟩ | ⟨a, b, c⟩
              · have e : tokS n = [n.name, ba [62], n.peer, ba [123]] := by unfold tokS; rw [if_neg (by omega), if_neg (by omega), if_neg (by omega), if_neg (by omega), if_neg (by omega)]
                rw [e]
                exact .inr ⟨rfl, word_T b, .inl ⟨sign_T _ (by decide) (by decide), .inr ⟨rfl, word_T t3, .inl ⟨sign_T _ (by decide) (by decide), hin⟩⟩⟩⟩
              · have e : tokS n = [n.peer, ba [33], ba [123]] := by unfold tokS; rw [if_neg (by omega), if_neg (by omega), if_neg (by omega), if_pos a]
                rw [e]
                exact .inr ⟨rfl, word_T t3, .inl ⟨sign_T _ (by decide) (by decide), .inl ⟨sign_T _ (by decide) (by decide), hin⟩⟩⟩
              · have e : tokS n = [n.peer, ba [63], ba [123]] := by unfold tokS; rw [if_neg (by omega), if_neg (by omega), if_neg (by omega), if_neg (by omega), if_pos a]
                rw [e]
                exact .inr ⟨rfl, word_T t3, .inl ⟨sign_T _ (by decide) (by decide), .inl ⟨sign_T _ (by decide) (by decide), hin⟩⟩⟩
            · cases h
/-- the text of a right row has the row's marks, all of ASCII -/
theorem text_marks {part : Bool} {ns : List Nd} (h : rightB part ns = true) : mkF (textF 10 ns).1.toList = (tokF 10 ns).1 ∧ (textF 10 ns).1 = catT (tokF 10 ns).1 ∧ ∀ x ∈ (tokF 10 ns).1, ∀ c ∈ x.toList, c.toNat < 128 := by
  have h' := h
  simp only [rightB, Bool.and_eq_true, beq_iff_eq] at h
  have h1 := h.2.1
  cases ha : ahead (talkS part) 10 [] ns with
  | none => rw [ha] at h1; cases h1
  | some r =>
    obtain ⟨e1, e2⟩ := ahead_sep part 10 [] (fun n hn => by cases hn) _ _ ha
    have hs := e1 [] trivial
    rw [List.append_nil] at hs
    have et : (textF 10 ns).1 = catT (tokF 10 ns).1 := by rw [tok_text]
    refine ⟨?_, et, sep_ascii _ _ hs⟩
    rw [et, cat_flat, mkF, sep_marks _ false [] [] hs (fun _ => rfl)]
    rfl
end Go.Proofs.YtmjlblbhakppfaaGreatDoor
/- Both ways of putting the roles in order give the same row. -/
namespace Go.Proofs.YtmjlblbhakppfaaGreatDoor
open Go.RowKit Go.Sort

def bytesOf (t : ByteArray) : List UInt8 := t.toList
theorem enc_bytes (t : ByteArray) : encStr (bytesOf t) = .string t := by
  rw [bytesOf, Go.ByteArray.toList_eq]
theorem map_enc (ls : List ByteArray) : (ls.map bytesOf).map encStr = ls.map Value.string := by
  rw [List.map_map]
  apply List.map_congr_left
  intro t _
  exact enc_bytes t
theorem sort_roles {part : Bool} {ns : List Nd} (h : ∀ n ∈ ns, nodeB (talkS part) n = true) : ((rolesI ns).map bytesOf).mergeSort (fun x y => decide (x ≤ y)) = (rolesS ns).map bytesOf := by
  obtain ⟨hs, hp⟩ := roles_perm h
  have h1 := List.pairwise_mergeSort (le := fun (x y : List UInt8) => decide (x ≤ y)) (fun a b c h1 h2 => by simp at *; exact List.le_trans h1 h2) (fun a b => by simp; exact List.le_total a b) ((rolesI ns).map bytesOf)
  have h2 : ((rolesS ns).map bytesOf).Pairwise (fun x y => decide (x ≤ y) = true) := by
    rw [List.pairwise_map]
    refine hs.imp ?_
    intro a b hab
    rw [less_iff] at hab
    simp
    exact List.le_of_lt hab
  refine List.Perm.eq_of_pairwise ?_ h1 h2 ((List.mergeSort_perm _ _).trans (hp.map _))
  intro a b _ _ h3 h4
  simp at h3 h4
  exact List.le_antisymm h3 h4

theorem sort_own (ls ts : List ByteArray) (v : Value) (w : World) (base : Nat) (hown : w.ownsRow base 9 1 v ls.length (ls.map Value.string)) (hl : ls.length ≤ 1000) (hsort : (ls.map bytesOf).mergeSort (fun x y => decide (x ≤ y)) = ts.map bytesOf) :
    Calls Tryz.prog 45 #[v] w fun e w' => e = .returned (.tuple #[]) ∧ w'.ownsRow base 9 1 v ts.length (ts.map Value.string) ∧ w.grownBy w' v.ownBlock := by
  have hlen : ts.length = ls.length := by
    have := congrArg List.length hsort
    rw [List.length_mergeSort, List.length_map, List.length_map] at this
    exact this.symm
  obtain ⟨hxl, hv⟩ := hown
  rcases hv with ⟨rfl, h0⟩ | ⟨g, cap, cur, rfl, hg, hh, hn, hcap, hsz, htake⟩
  · have e : ls = [] := List.length_eq_zero_iff.1 h0
    subst e
    have e2 : ts = [] := List.length_eq_zero_iff.1 hlen
    subst e2
    refine (Tryz.slices_Sort_string_none none 0 w).mono ?_
    rintro e w' ⟨rfl, rfl⟩
    exact ⟨rfl, World.ownsRow_nil _ _ _ _, ⟨rfl, rfl, rfl, Nat.le_refl _, fun _ _ _ => rfl⟩⟩
  · have hlt : g < w.heap.size := (Array.getElem?_eq_some_iff.1 hh).1
    have hs := Tryz.slices_Sort_string g 0 cap (ls.map bytesOf) w (holds_of_block hh (by rw [List.length_map, map_enc]; simpa using htake)) hlt (by rw [List.length_map]; omega)
    rw [List.length_map] at hs
    refine hs.mono ?_
    rintro e w' ⟨rfl, n, os, rfl⟩
    refine ⟨rfl, ?_, grownBy_sorted _⟩
    rw [hsort]
    have ho := ownsRow_sorted (n := n) (os := os) (base := base) (ss := ls.map bytesOf) (ts := ts.map bytesOf) (by rw [List.length_map, List.length_map]; exact hlen) hg hh (by rw [List.length_map]; exact hn) hcap hsz
    rw [map_enc, List.length_map] at ho
    rw [hlen]
    exact ho
end Go.Proofs.YtmjlblbhakppfaaGreatDoor
/- RolesOf and TalksIn, of the program and of the specification. -/
namespace Go.Proofs.YtmjlblbhakppfaaGreatDoor
open Go.RowKit

def rolesV (ns : List Nd) : List ByteArray := if rightB false ns then rolesS ns else []
theorem right_nodes {part : Bool} {ns : List Nd} (h : rightB part ns = true) : ∀ n ∈ ns, nodeB (talkS part) n = true := by
  rw [rightB] at h
  simp only [Bool.and_eq_true] at h
  exact ahead_all h.2.1
theorem right_len {part : Bool} {ns : List Nd} (h : rightB part ns = true) : ns.length ≤ 40 := by
  rw [rightB] at h
  simp only [Bool.and_eq_true, decide_eq_true_eq] at h
  exact h.1
theorem right_roles {part : Bool} {ns : List Nd} (h : rightB part ns = true) : (rolesS ns).length ≤ 4 := by
  rw [rightB] at h
  simp only [Bool.and_eq_true, decide_eq_true_eq] at h
  exact h.2.2

theorem own_down {w : World} {base base' e size : Nat} {v : Value} {n : Nat} {xs : List Value} (h : w.ownsRow base e size v n xs) (hb : base' ≤ base) : w.ownsRow base' e size v n xs := by
  obtain ⟨h1, hv⟩ := h
  refine ⟨h1, ?_⟩
  rcases hv with hv | ⟨g, cap, cur, rfl, hg, r⟩
  · exact .inl hv
  · exact .inr ⟨g, cap, cur, rfl, by omega, r⟩

set_option maxHeartbeats 400000 in
theorem roles_of (ns : List Nd) (v : Value) (w : World) (fit : ∀ n ∈ ns, n.fit) (hv : SlAt w w.heap.size v ns) :
    Calls Tryz.prog 9 #[v] w fun e w' => ∃ v', e = .returned v' ∧ w'.ownsRow w.heap.size 9 1 v' (rolesV ns).length ((rolesV ns).map Value.string) ∧ Below w.heap.size w w' := by
  have HV := hide hv
  have HF := hide fit
  have hlm := hv.lenm
  obtain ⟨ao, cap, rfl, hc, hm, hr⟩ := hv
  obtain ⟨rb, hrb⟩ : ∃ rb, rightB false ns = rb := ⟨_, rfl⟩
  have HRB := hide hrb
  clear hr fit hrb
  cases rb
  · have HE : Hid (rolesV ns = []) := hide (by rw [rolesV, HRB.out]; rfl)
    go_enter Tryz.func9, Tryz.ntmps9
    go_wp2_with (go_at_call 12; refine (plan_right ns _ _ HF.out HV.out).mono ?_; rintro e w1 ⟨rfl, hb1⟩; rw [HRB.out]; have HB1 := hide hb1; clear hb1)
    go_ret
    refine ⟨_, rfl, ?_, HB1.out⟩
    rw [HE.out]
    exact World.ownsRow_nil _ _ _ _
  · have HE : Hid (rolesV ns = rolesS ns) := hide (by rw [rolesV, HRB.out]; rfl)
    have HLE := hide (right_len HRB.out)
    have HSO := hide (sort_roles (right_nodes HRB.out))
    have HLN : Hid ((rolesI ns).length = (rolesS ns).length) := hide (roles_perm (right_nodes HRB.out)).2.length_eq
    go_enter Tryz.func9, Tryz.ntmps9
    go_wp2_with (first | (go_at_call 12; refine (plan_right ns _ _ HF.out HV.out).mono ?_; rintro e w1 ⟨rfl, hb1⟩; rw [HRB.out]; have HB1 := hide hb1; clear hb1) | (go_at_call 44; refine (i_roles clone_calls ns _ _ HF.out ((HV.out.carry HB1.out).up HB1.out.size) HLE.out).mono ?_; rintro e w2 ⟨v2, rfl, ho2, hb2⟩; have HO2 := hide ho2; have HB2 : Hid (Below w.heap.size w w2) := hide (HB1.out.trans (hb2.mono HB1.out.size)); have HZ := hide HB1.out.size; clear ho2 hb2) | (go_at_call 45; refine (sort_own (rolesI ns) (rolesS ns) _ _ _ HO2.out (by have := rolesI_len ns; have := HLE.out; omega) HSO.out).mono ?_; rintro e w3 ⟨rfl, ho3, hg3⟩; have HO3 := hide ho3; have HB3 : Hid (Below w.heap.size w w3) := hide (HB2.out.grown hg3 HB2.out.size (fun k hk => Nat.le_trans HZ.out (own_row HO2.out k hk))); clear ho3 hg3))
    go_ret
    refine ⟨_, rfl, ?_, HB3.out⟩
    rw [HE.out]
    exact own_down HO3.out HZ.out

/-- a row of the specification's: it may be shared -/
theorem s_rolesOf (ns : List Nd) (v : Value) (w : World) (fit : ∀ n ∈ ns, n.fit) (hv : SlAt w w.heap.size v ns) :
    Calls Tryz.prog 17 #[v] w fun e w' => ∃ v', e = .returned v' ∧ STexts w' v' (rolesV ns) ∧ Below w.heap.size w w' := by
  have HV := hide hv
  have HF := hide fit
  have hlm := hv.lenm
  obtain ⟨ao, cap, rfl, hc, hm, hr⟩ := hv
  obtain ⟨rb, hrb⟩ : ∃ rb, rightB false ns = rb := ⟨_, rfl⟩
  have HRB := hide hrb
  clear hr fit hrb
  by_cases h400 : ns.length ≤ 400
  · cases rb
    · have HE : Hid (rolesV ns = []) := hide (by rw [rolesV, HRB.out]; rfl)
      go_enter Tryz.func17, Tryz.ntmps17
      go_wp2_with (go_at_call 13; refine (s_planRight ns _ _ HF.out HV.out).mono ?_; rintro e w1 ⟨rfl, hb1⟩; rw [HRB.out]; have HB1 := hide hb1; clear hb1)
      go_ret
      refine ⟨_, rfl, ?_, HB1.out.trans ((alloc1 _ _).mono HB1.out.size)⟩
      rw [HE.out]
      exact ⟨_, _, _, rfl, Nat.le_refl _, by unfold maxLen; omega, fun i h => absurd h (by simp)⟩
    · have HE : Hid (rolesV ns = rolesS ns) := hide (by rw [rolesV, HRB.out]; rfl)
      have HLE := hide (right_len HRB.out)
      go_enter Tryz.func17, Tryz.ntmps17
      go_wp2_with (first | (go_at_call 13; refine (s_planRight ns _ _ HF.out HV.out).mono ?_; rintro e w1 ⟨rfl, hb1⟩; rw [HRB.out]; have HB1 := hide hb1; clear hb1) | (go_at_call 51; refine (s_roles ns _ _ ((HV.out.carry HB1.out).up HB1.out.size) HLE.out).mono ?_; rintro e w2 ⟨v2, rfl, hs2, hb2⟩; have HS2 := hide hs2; have HB2 := hide hb2; clear hs2 hb2))
      go_ret
      refine ⟨_, rfl, ?_, HB1.out.trans (HB2.out.mono HB1.out.size)⟩
      rw [HE.out]
      exact HS2.out
  · have HE : Hid (rolesV ns = []) := hide (by
      cases rb
      · rw [rolesV, HRB.out]; rfl
      · have := right_len HRB.out; omega)
    go_enter Tryz.func17, Tryz.ntmps17
    go_wp2_with fail
    go_ret
    refine ⟨_, rfl, ?_, alloc1 _ _⟩
    rw [HE.out]
    exact ⟨_, _, _, rfl, Nat.le_refl _, by unfold maxLen; omega, fun i h => absurd h (by simp)⟩
end Go.Proofs.YtmjlblbhakppfaaGreatDoor
/- TalksIn, of the program and of the specification. -/
namespace Go.Proofs.YtmjlblbhakppfaaGreatDoor
open Go.RowKit

theorem STexts.texts {w : World} {v : Value} {ls : List ByteArray} (h : STexts w v ls) (hl : ls.length ≤ 4294967296) : TextsAt w v ls := by
  obtain ⟨b, o, cap, rfl, h1, h2, h3⟩ := h
  exact ⟨_, _, rfl, h1, hl, fun _ => ⟨b, o, rfl, h3⟩⟩
theorem word_len {t : ByteArray} (h : wordB t = true) : t.size ≤ 20 := by
  simp only [wordB, nameB, Bool.and_eq_true, decide_eq_true_eq] at h
  exact h.1.1.2
theorem talker_word {n : Nd} (h : nodeB (talkS false) n = true) : ∀ t ∈ talkers n, wordB t = true := by
  intro t ht
  simp only [nodeB, Bool.or_eq_true] at h
  rcases h with (((h | h) | h) | h) | h
  · simp only [endB, Bool.and_eq_true, beq_iff_eq] at h
    simp [talkers, h] at ht
  · simp only [varB, Bool.and_eq_true, beq_iff_eq] at h
    simp [talkers, h] at ht
  · simp only [recB, Bool.and_eq_true, beq_iff_eq] at h
    simp [talkers, h] at ht
  · simp only [caseB, Bool.and_eq_true, beq_iff_eq] at h
    simp [talkers, h] at ht
  · simp only [Bool.and_eq_true] at h
    have hs := h.2
    simp only [talkS, Bool.and_eq_true] at hs
    simp at hs
    simp [talkers, hs] at ht
    rcases ht with h | h
    · rw [h]; exact hs.2.1.2
    · rw [h]; exact hs.1.1.1
theorem fold_mem {ts : List ByteArray} : ∀ {acc : List ByteArray} {t : ByteArray}, t ∈ ts.foldl addI acc → t ∈ acc ∨ t ∈ ts := by
  induction ts with
  | nil => intro acc t h; exact .inl h
  | cons s ts ih =>
    intro acc t h
    rcases ih h with h | h
    · rw [addI] at h
      split at h
      · exact .inl h
      · rcases List.mem_append.1 h with h | h
        · exact .inl h
        · simp at h; exact .inr (by simp [h])
    · exact .inr (List.mem_cons_of_mem _ h)
theorem role_word {ns : List Nd} (h : rightB false ns = true) : ∀ t ∈ rolesS ns, wordB t = true := by
  intro t ht
  have hp := (roles_perm (right_nodes h)).2
  have h1 := hp.mem_iff.2 ht
  rw [rolesI_eq] at h1
  rcases fold_mem h1 with h2 | h2
  · cases h2
  · obtain ⟨n, hn, hnt⟩ := List.mem_flatMap.1 h2
    exact talker_word (right_nodes h n hn) t hnt

def talksV (ns : List Nd) (role : ByteArray) : Bool := hasB (rolesV ns) role
theorem roles_le4 (ns : List Nd) : (rolesV ns).length ≤ 4 := by
  rw [rolesV]
  split
  · rename_i h; exact right_roles h
  · simp

theorem talks_in (ns : List Nd) (role : ByteArray) (v : Value) (w : World) (fit : ∀ n ∈ ns, n.fit) (hv : SlAt w w.heap.size v ns) :
    Calls Tryz.prog 18 #[v, .string role] w fun e w' => e = .returned (.bool (talksV ns role)) ∧ Below w.heap.size w w' := by
  have HV := hide hv
  have HF := hide fit
  obtain ⟨ao, cap, rfl, hc, hm, hr⟩ := hv
  clear hr fit hc hm
  go_enter Tryz.func18, Tryz.ntmps18
  go_wp2_with (first | (go_at_call 9; refine (roles_of ns _ _ HF.out HV.out).mono ?_; rintro e w1 ⟨v1, rfl, ho1, hb1⟩; have HO1 := hide ho1; have HB1 := hide hb1; clear hb1 ho1) | (go_at_call 52; refine (s_contains (rolesV ns) role _ _ (texts_own HO1.out (by have := roles_le4 ns; omega))).mono ?_; rintro e w2 ⟨rfl, rfl⟩))
  go_ret
  exact ⟨ret_bool rfl, HB1.out⟩

theorem talks_long {ns : List Nd} {role : ByteArray} (h : 8000 < role.size) : talksV ns role = false := by
  rw [← Bool.not_eq_true]
  intro ht
  rw [talksV, has_iff, rolesV] at ht
  split at ht
  · rename_i hr
    have := word_len (role_word hr role ht)
    omega
  · cases ht

set_option maxHeartbeats 400000 in
theorem s_talksIn (ns : List Nd) (role : ByteArray) (v : Value) (w : World) (fit : ∀ n ∈ ns, n.fit) (hro : role.size ≤ maxLen) (hv : SlAt w w.heap.size v ns) :
    Calls Tryz.prog 19 #[v, .string role] w fun e w' => e = .returned (.bool (talksV ns role)) ∧ Below w.heap.size w w' := by
  have HV := hide hv
  have HF := hide fit
  have hlm := hv.lenm
  unfold maxLen at hro
  obtain ⟨ao, cap, rfl, hc, hm, hr⟩ := hv
  obtain ⟨rb, hrb⟩ : ∃ rb, rightB false ns = rb := ⟨_, rfl⟩
  have HRB := hide hrb
  clear hr fit hrb
  by_cases h400 : ns.length ≤ 400
  · by_cases h8 : role.size ≤ 8000
    · cases rb
      · have HE : Hid (talksV ns role = false) := hide (by rw [talksV, rolesV, HRB.out]; rfl)
        go_enter Tryz.func19, Tryz.ntmps19
        go_wp2_with (go_at_call 13; refine (s_planRight ns _ _ HF.out HV.out).mono ?_; rintro e w1 ⟨rfl, hb1⟩; rw [HRB.out]; have HB1 := hide hb1; clear hb1)
        go_ret
        exact ⟨ret_bool HE.out, HB1.out⟩
      · have HE : Hid (talksV ns role = hasB (rolesS ns) role) := hide (by rw [talksV, rolesV, HRB.out]; rfl)
        have HLE := hide (right_len HRB.out)
        have HL4 := hide (right_roles HRB.out)
        go_enter Tryz.func19, Tryz.ntmps19
        go_wp2_with (first | (go_at_call 13; refine (s_planRight ns _ _ HF.out HV.out).mono ?_; rintro e w1 ⟨rfl, hb1⟩; rw [HRB.out]; have HB1 := hide hb1; clear hb1) | (go_at_call 51; refine (s_roles ns _ _ ((HV.out.carry HB1.out).up HB1.out.size) HLE.out).mono ?_; rintro e w2 ⟨v2, rfl, hs2, hb2⟩; have HS2 := hide hs2; have HB2 := hide hb2; clear hs2 hb2) | (go_at_call 53; refine (s_among (rolesS ns) role _ _ (HS2.out.texts (by have := HL4.out; omega))).mono ?_; rintro e w3 ⟨rfl, rfl⟩))
        go_ret
        exact ⟨ret_bool HE.out, HB1.out.trans (HB2.out.mono HB1.out.size)⟩
    · have HE : Hid (talksV ns role = false) := hide (talks_long (by omega))
      go_enter Tryz.func19, Tryz.ntmps19
      go_wp2_with fail
      go_ret
      exact ⟨ret_bool HE.out, Below.refl _ _⟩
  · have HE : Hid (talksV ns role = false) := hide (by
      cases rb
      · rw [talksV, rolesV, HRB.out]; rfl
      · have := right_len HRB.out; omega)
    go_enter Tryz.func19, Tryz.ntmps19
    go_wp2_with fail
    go_ret
    exact ⟨ret_bool HE.out, Below.refl _ _⟩
end Go.Proofs.YtmjlblbhakppfaaGreatDoor
