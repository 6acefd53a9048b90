/- How few edges lead from a state to an end. -/
import Derived.Test.YtcdlceldokhnbaaMachM
namespace Go.Proofs.Ytcdlceldokhnbaa
open Go.RowKit

def EndIn (m : Mach) (E : List REdge) : Nat → Int → Prop
  | 0, t => kindAt m t = 0
  | j + 1, t => ∃ e ∈ E, e.src = t ∧ EndIn m E j e.dst
def awayB (R : List Int) (e : REdge) : Bool := !R.contains e.src
theorem away_iff {R : List Int} {e : REdge} : awayB R e = true ↔ e.src ∉ R := by simp [awayB]
theorem endIn_sub {m : Mach} {E F : List REdge} (h : ∀ e ∈ E, e ∈ F) : ∀ {j : Nat} {t : Int}, EndIn m E j t → EndIn m F j t
  | 0, _, hj => hj
  | _ + 1, _, ⟨e, he, h1, h2⟩ => ⟨e, h e he, h1, endIn_sub h h2⟩
theorem endIn_strip {m : Mach} {E : List REdge} (R : List Int) : ∀ {j : Nat} {t : Int}, EndIn m E j t → EndIn m (E.filter (awayB R)) j t ∨ ∃ e ∈ E, e.src ∈ R ∧ ∃ j', j' < j ∧ EndIn m (E.filter (awayB R)) j' e.dst
  | 0, _, hj => .inl hj
  | j + 1, t, ⟨e, he, h1, h2⟩ => by
    rcases endIn_strip R h2 with h | ⟨e', he', hr, j', hj', h'⟩
    · by_cases hr : e.src ∈ R
      · exact .inr ⟨e, he, hr, j, Nat.lt_succ_self _, h⟩
      · exact .inl ⟨e, List.mem_filter.2 ⟨he, away_iff.2 hr⟩, h1, h⟩
    · exact .inr ⟨e', he', hr, j', Nat.lt_succ_of_lt hj', h'⟩
def EndAns (m : Mach) (s : Int) (r : Int) : Prop :=
  (r = -1 ∧ ∀ j, ¬ EndIn m m.edges j s) ∨ ∃ k : Nat, r = k ∧ EndIn m m.edges k s ∧ ∀ j, EndIn m m.edges j s → k ≤ j
theorem EndAns.unique {m : Mach} {s r r' : Int} (h : EndAns m s r) (h' : EndAns m s r') : r = r' := by
  rcases h with ⟨rfl, h1⟩ | ⟨k, rfl, h1, h2⟩ <;> rcases h' with ⟨rfl, h3⟩ | ⟨k', rfl, h3, h4⟩
  · rfl
  · exact absurd h3 (h1 _)
  · exact absurd h1 (h3 _)
  · have := h2 _ h3
    have := h4 _ h1
    omega
structure Bfs (m : Mach) (s : Int) (k : Nat) (E : List REdge) (R : List Int) : Prop where
  sub : ∀ e ∈ E, e ∈ m.edges
  come : ∀ t ∈ R, ∀ j, EndIn m m.edges j t → EndIn m m.edges (k + j) s
  all : ∀ j, EndIn m m.edges j s → ∃ t ∈ R, ∃ j', k + j' ≤ j ∧ EndIn m E j' t
  small : 2 * E.length + (if R = [] then 0 else 1) + k ≤ 161
  inR : ∀ t ∈ R, 0 ≤ t ∧ t < (m.states.length : Int)
theorem bfs_start {m : Mach} {s : Int} (h80 : m.edges.length ≤ 80) (h0 : 0 ≤ s) (h1 : s < (m.states.length : Int)) : Bfs m s 0 m.edges [s] where
  sub := fun _ h => h
  come := fun t ht j hj => by simp at ht; subst ht; simpa using hj
  all := fun j hj => ⟨s, by simp, j, by omega, hj⟩
  small := by simp; omega
  inR := fun t ht => by simp at ht; subst ht; exact ⟨h0, h1⟩
theorem bfs_step {m : Mach} {s : Int} {k : Nat} {E : List REdge} {R R' : List Int} (h : Bfs m s k E R) (hno : ∀ t ∈ R, kindAt m t ≠ 0) (hdst : ∀ e ∈ m.edges, 0 ≤ e.dst ∧ e.dst < (m.states.length : Int))
    (hne : R ≠ []) (hR : ∀ x, x ∈ R' ↔ ∃ e ∈ E, e.src ∈ R ∧ e.dst = x) : Bfs m s (k + 1) (E.filter (awayB R)) R' where
  sub := fun e he => h.sub e (List.mem_filter.1 he).1
  come := fun t ht j hj => by
    obtain ⟨e, he, hs, rfl⟩ := (hR t).1 ht
    have := h.come e.src hs (j + 1) ⟨e, h.sub e he, rfl, hj⟩
    rwa [show k + 1 + j = k + (j + 1) by omega]
  all := fun j hj => by
    obtain ⟨t, ht, j', hle, hend⟩ := h.all j hj
    rcases endIn_strip R hend with h1 | ⟨e, he, hs, j2, hj2, h2⟩
    · cases j' with
      | zero => exact absurd h1 (hno t ht)
      | succ j' =>
        obtain ⟨e, he, h3, _⟩ := h1
        exact absurd (h3 ▸ ht) (away_iff.1 (List.mem_filter.1 he).2)
    · exact ⟨e.dst, (hR _).2 ⟨e, he, hs, rfl⟩, j2, by omega, h2⟩
  small := by
    have h1 := h.small
    rw [if_neg hne] at h1
    have h2 : (E.filter (awayB R)).length ≤ E.length := List.length_filter_le _ _
    by_cases he : R' = []
    · rw [if_pos he]; omega
    · rw [if_neg he]
      obtain ⟨x, hx⟩ := List.exists_mem_of_ne_nil _ he
      obtain ⟨e, he1, he2, _⟩ := (hR x).1 hx
      have h3 : (E.filter (awayB R)).length < E.length := by
        apply List.length_filter_lt_length_iff_exists.2
        exact ⟨e, he1, fun h => away_iff.1 h he2⟩
      omega
  inR := fun t ht => by
    obtain ⟨e, he, _, rfl⟩ := (hR t).1 ht
    exact hdst e (h.sub e he)
theorem bfs_found {m : Mach} {s : Int} {k : Nat} {E : List REdge} {R : List Int} (h : Bfs m s k E R) {t : Int} (ht : t ∈ R) (h0 : kindAt m t = 0) : EndAns m s (k : Int) :=
  .inr ⟨k, rfl, h.come t ht 0 h0, fun j hj => by obtain ⟨_, _, j', h1, _⟩ := h.all j hj; omega⟩
theorem bfs_none {m : Mach} {s : Int} {k : Nat} {E : List REdge} (h : Bfs m s k E []) : EndAns m s (-1) :=
  .inl ⟨rfl, fun j hj => by obtain ⟨_, ht, _⟩ := h.all j hj; cases ht⟩

/- the least number of edges is less than the number of states -/
def EndMin (m : Mach) (d : Nat) (t : Int) : Prop := EndIn m m.edges d t ∧ ∀ j, EndIn m m.edges j t → d ≤ j
theorem EndMin.eq {m : Mach} {d d' : Nat} {t : Int} (h : EndMin m d t) (h' : EndMin m d' t) : d = d' := Nat.le_antisymm (h.2 _ h'.1) (h'.2 _ h.1)
theorem endMin_of {m : Mach} {t : Int} : ∀ (n : Nat) {j : Nat}, j ≤ n → EndIn m m.edges j t → ∃ d, d ≤ j ∧ EndMin m d t
  | 0, j, hj, h => ⟨j, Nat.le_refl _, h, fun _ _ => by omega⟩
  | n + 1, j, hj, h => by
    by_cases hl : ∃ j', j' < j ∧ EndIn m m.edges j' t
    · obtain ⟨j', h1, h2⟩ := hl
      obtain ⟨d, h3, h4⟩ := endMin_of n (by omega) h2
      exact ⟨d, by omega, h4⟩
    · exact ⟨j, Nat.le_refl _, h, fun j' hj' => by
        by_cases hlt : j ≤ j'
        · exact hlt
        · exact absurd ⟨j', by omega, hj'⟩ hl⟩
theorem nodup_short : ∀ (n : Nat) (l : List Int), l.Nodup → (∀ x ∈ l, 0 ≤ x ∧ x < (n : Int)) → l.length ≤ n
  | 0, l, _, h => by
    cases l with
    | nil => simp
    | cons a l => have := h a (by simp); omega
  | n + 1, l, hd, h => by
    have h1 := nodup_short n (l.erase (n : Int)) (hd.erase _) (fun x hx => by
      have h2 := (hd.mem_erase_iff).1 hx
      have := h x h2.2
      have := h2.1
      omega)
    rw [List.length_erase] at h1
    split at h1 <;> omega
theorem min_chain {m : Mach} (hdst : ∀ e ∈ m.edges, 0 ≤ e.dst ∧ e.dst < (m.states.length : Int)) : ∀ (d : Nat) {t : Int}, 0 ≤ t → t < (m.states.length : Int) → EndMin m d t →
    ∃ l : List Int, l.length = d + 1 ∧ l.Nodup ∧ ∀ x ∈ l, (0 ≤ x ∧ x < (m.states.length : Int)) ∧ ∃ c, c ≤ d ∧ EndMin m c x
  | 0, t, h0, h1, h => ⟨[t], rfl, by simp, fun x hx => by simp at hx; subst hx; exact ⟨⟨h0, h1⟩, 0, Nat.le_refl _, h⟩⟩
  | d + 1, t, h0, h1, h => by
    obtain ⟨e, he, hs, hd⟩ := h.1
    have hmin : EndMin m d e.dst := ⟨hd, fun j hj => by have := h.2 (j + 1) ⟨e, he, hs, hj⟩; omega⟩
    obtain ⟨l, hl, hn, hx⟩ := min_chain hdst d (hdst e he).1 (hdst e he).2 hmin
    refine ⟨t :: l, by simp [hl], List.nodup_cons.2 ⟨fun ht => ?_, hn⟩, fun x hxm => ?_⟩
    · obtain ⟨_, c, hc, hm⟩ := hx t ht
      have := h.eq hm
      omega
    · rcases List.mem_cons.1 hxm with rfl | hxm
      · exact ⟨⟨h0, h1⟩, d + 1, Nat.le_refl _, h⟩
      · obtain ⟨h2, c, hc, hm⟩ := hx x hxm
        exact ⟨h2, c, by omega, hm⟩
theorem endMin_short {m : Mach} (hdst : ∀ e ∈ m.edges, 0 ≤ e.dst ∧ e.dst < (m.states.length : Int)) {d : Nat} {t : Int} (h0 : 0 ≤ t) (h1 : t < (m.states.length : Int)) (h : EndMin m d t) : d < m.states.length := by
  obtain ⟨l, hl, hn, hx⟩ := min_chain hdst d h0 h1 h
  have := nodup_short m.states.length l hn (fun x hxm => (hx x hxm).1)
  omega

/- the specification's table: how far each state is, as far as is known -/
def fget (f : List Int) (i : Int) : Int := f.getD i.toNat (-1)
def relaxB (f : List Int) (e : REdge) : Bool := decide (0 ≤ fget f e.dst) && (decide (fget f e.src < 0) || decide (fget f e.dst + 1 < fget f e.src))
def relax (f : List Int) (e : REdge) : List Int := if relaxB f e then f.set e.src.toNat (fget f e.dst + 1) else f
structure Far (m : Mach) (f : List Int) (c : Nat) : Prop where
  len : f.length = m.states.length
  sound : ∀ i, 0 ≤ i → i < (m.states.length : Int) → fget f i = -1 ∨ (0 ≤ fget f i ∧ EndIn m m.edges (fget f i).toNat i)
  most : ∀ i, fget f i ≤ c
def FarTo (m : Mach) (f : List Int) (r : Nat) : Prop := ∀ i j, 0 ≤ i → i < (m.states.length : Int) → j ≤ r → EndIn m m.edges j i → 0 ≤ fget f i ∧ fget f i ≤ j
def FarBy (m : Mach) (f : List Int) (r q : Nat) : Prop := ∀ p, p < q → ∀ e, m.edges[p]? = some e → ∀ j, j ≤ r → EndIn m m.edges j e.dst → 0 ≤ fget f e.src ∧ fget f e.src ≤ j + 1
theorem fget_set {f : List Int} {a i : Int} {x : Int} (ha : 0 ≤ a) (hi : 0 ≤ i) (hl : a.toNat < f.length) : fget (f.set a.toNat x) i = if i = a then x else fget f i := by
  unfold fget
  rw [List.getD_eq_getElem?_getD, List.getD_eq_getElem?_getD, List.getElem?_set]
  by_cases h : i = a
  · subst h; simp [hl]
  · rw [if_neg h, if_neg (by omega)]
theorem fget_out {f : List Int} {i : Int} (h : f.length ≤ i.toNat) : fget f i = -1 := by
  unfold fget
  rw [List.getD_eq_getElem?_getD, List.getElem?_eq_none h]; rfl
def farNew (m : Mach) (k : Nat) : List Int := (m.states.take k).map (fun x => if x.kind = 0 then 0 else -1)
theorem farNew_succ {m : Mach} {k : Nat} (h : k < m.states.length) : farNew m (k + 1) = farNew m k ++ [if m.states[k].kind = 0 then 0 else -1] := by
  rw [farNew, List.take_succ_eq_append_getElem h, List.map_append]; rfl
theorem far_new (m : Mach) : Far m (farNew m m.states.length) 0 ∧ FarTo m (farNew m m.states.length) 0 := by
  have hg : ∀ i : Int, 0 ≤ i → i < (m.states.length : Int) → fget (farNew m m.states.length) i = if kindAt m i = 0 then 0 else -1 := by
    intro i h0 h1
    have hi : i.toNat < m.states.length := by omega
    unfold fget farNew kindAt
    rw [List.getD_eq_getElem?_getD, List.take_length, List.getElem?_map, List.getElem?_eq_getElem hi]
    rfl
  refine ⟨⟨by simp [farNew], fun i h0 h1 => ?_, fun i => ?_⟩, fun i j h0 h1 hj h => ?_⟩
  · rw [hg i h0 h1]
    by_cases hk : kindAt m i = 0
    · rw [if_pos hk]; exact .inr ⟨Int.le_refl _, hk⟩
    · rw [if_neg hk]; exact .inl rfl
  · by_cases hi : i.toNat < m.states.length
    · have := hg (i.toNat : Int) (by omega) (by omega)
      have h2 : fget (farNew m m.states.length) i = fget (farNew m m.states.length) (i.toNat : Int) := by rw [fget, fget, Int.toNat_natCast]
      rw [h2, this]
      split <;> simp
    · rw [fget_out (by simp [farNew]; omega)]; simp
  · obtain rfl : j = 0 := by omega
    rw [hg i h0 h1, if_pos (show kindAt m i = 0 from h)]; simp
theorem relax_far {m : Mach} {f : List Int} {c r q : Nat} {e : REdge} (h : Far m f c) (ht : FarTo m f r) (hb : FarBy m f r q) (he : m.edges[q]? = some e) (hs : 0 ≤ e.src ∧ e.src < (m.states.length : Int)) (hd : 0 ≤ e.dst ∧ e.dst < (m.states.length : Int))
    (hsrc : ∀ e ∈ m.edges, 0 ≤ e.src) :
    Far m (relax f e) (c + 1) ∧ FarTo m (relax f e) r ∧ FarBy m (relax f e) r (q + 1) := by
  have hmem : e ∈ m.edges := List.mem_of_getElem? he
  have hl : e.src.toNat < f.length := by rw [h.len]; omega
  cases hq : relaxB f e with
  | false =>
    have hr : relax f e = f := by rw [relax, hq]; rfl
    rw [hr]
    refine ⟨⟨h.len, h.sound, fun i => by have := h.most i; omega⟩, ht, fun p hp e' he' j hj hend => ?_⟩
    by_cases hpq : p < q
    · exact hb p hpq e' he' j hj hend
    · obtain rfl : p = q := by omega
      rw [he] at he'
      cases he'
      have h1 := ht e.dst j hd.1 hd.2 hj hend
      simp [relaxB] at hq
      have := hq h1.1
      omega
  | true =>
    have hr : relax f e = f.set e.src.toNat (fget f e.dst + 1) := by rw [relax, hq]; rfl
    have hq' := hq
    simp [relaxB] at hq'
    obtain ⟨hd0, hlow⟩ := hq'
    have hg : ∀ i, 0 ≤ i → fget (f.set e.src.toNat (fget f e.dst + 1)) i = if i = e.src then fget f e.dst + 1 else fget f i := fun i hi => fget_set hs.1 hi hl
    rw [hr]
    have hle : ∀ i, 0 ≤ i → ∀ z : Int, 0 ≤ fget f i → fget f i ≤ z → 0 ≤ fget (f.set e.src.toNat (fget f e.dst + 1)) i ∧ fget (f.set e.src.toNat (fget f e.dst + 1)) i ≤ z := by
      intro i hi z h1 h2
      rw [hg i hi]
      split
      · subst_vars; omega
      · exact ⟨h1, h2⟩
    refine ⟨⟨by rw [List.length_set]; exact h.len, fun i h0 h1 => ?_, fun i => ?_⟩, fun i j h0 h1 hj hend => ?_, fun p hp e' he' j hj hend => ?_⟩
    · rw [hg i h0]
      split
      · subst_vars
        refine .inr ⟨by omega, ?_⟩
        rcases h.sound e.dst hd.1 hd.2 with h2 | ⟨_, h2⟩
        · omega
        · rw [show (fget f e.dst + 1).toNat = (fget f e.dst).toNat + 1 by omega]
          exact ⟨e, hmem, rfl, h2⟩
      · exact h.sound i h0 h1
    · by_cases hi : 0 ≤ i
      · rw [hg i hi]
        have h1 := h.most i
        have h2 := h.most e.dst
        split <;> omega
      · have h2 : fget (f.set e.src.toNat (fget f e.dst + 1)) i = fget (f.set e.src.toNat (fget f e.dst + 1)) 0 := by simp [fget, Int.toNat_of_nonpos (show i ≤ 0 by omega)]
        rw [h2, hg 0 (by omega)]
        have h1 := h.most 0
        have h2 := h.most e.dst
        split <;> omega
    · have := ht i j h0 h1 hj hend
      exact hle i h0 j this.1 this.2
    · by_cases hpq : p < q
      · have := hb p hpq e' he' j hj hend
        exact hle e'.src (hsrc e' (List.mem_of_getElem? he')) (j + 1) this.1 this.2
      · obtain rfl : p = q := by omega
        rw [he] at he'
        cases he'
        have h1 := ht e.dst j hd.1 hd.2 hj hend
        rw [hg e.src hs.1, if_pos rfl]
        omega
theorem far_round {m : Mach} {f : List Int} {r : Nat} (ht : FarTo m f r) (hb : FarBy m f r m.edges.length) : FarTo m f (r + 1) := by
  intro i j h0 h1 hj hend
  cases j with
  | zero => exact ht i 0 h0 h1 (by omega) hend
  | succ j =>
    obtain ⟨e, he, rfl, h2⟩ := hend
    obtain ⟨p, hp, hpe⟩ := List.getElem_of_mem he
    have := hb p hp e (by rw [List.getElem?_eq_getElem hp, hpe]) j (by omega) h2
    exact ⟨this.1, by have := this.2; omega⟩
theorem far_end {m : Mach} {f : List Int} {c : Nat} (hdst : ∀ e ∈ m.edges, 0 ≤ e.dst ∧ e.dst < (m.states.length : Int)) (h : Far m f c) (ht : FarTo m f m.states.length) {s : Int} (h0 : 0 ≤ s) (h1 : s < (m.states.length : Int)) : EndAns m s (fget f s) := by
  have key : ∀ j, EndIn m m.edges j s → 0 ≤ fget f s ∧ fget f s ≤ j := by
    intro j hj
    obtain ⟨d, hd, hm⟩ := endMin_of j (Nat.le_refl _) hj
    have := endMin_short hdst h0 h1 hm
    have := ht s d h0 h1 (by omega) hm.1
    omega
  rcases h.sound s h0 h1 with h2 | ⟨h2, h3⟩
  · exact .inl ⟨h2, fun j hj => by have := key j hj; omega⟩
  · exact .inr ⟨(fget f s).toNat, by omega, h3, fun j hj => by have := key j hj; omega⟩
end Go.Proofs.Ytcdlceldokhnbaa
