/- leave: what has been done, as a function of what is still to come. -/
import Derived.Test.YtcdlceldokhnbaaTurnInv
import Derived.Test.YtcdlceldokhnbaaGraph
import Derived.Test.YtcdlceldokhnbaaEndM
namespace Go.Proofs.Ytcdlceldokhnbaa
open Go.RowKit Go.Maps

def tkey (f : Int) (a : RAct) (kl : Lit) : Prop := keyOf Try.prog 186 (turnV f a) = some kl
structure LInv (D0 : DataW Unit) (R : List Int) (D : DataW Unit) (left : Lit → Bool) (acc : List Int) : Prop where
  held : ∀ f a kl, tkey f a kl → Maps.has D kl = (Maps.has D0 kl && (left kl || !R.contains f))
  same : ∀ kl z, Maps.has D kl = true → D.atKey kl z = D0.atKey kl z
  low : ∀ kl, left kl = true → Maps.has D0 kl = true
  got : ∀ x, x ∈ acc ↔ ∃ f a kl, tkey f a kl ∧ Maps.has D0 kl = true ∧ left kl = false ∧ f ∈ R ∧ ∀ z, D0.atKey kl z = .lit (.int .i64 x)
theorem linv_start (D0 : DataW Unit) (R : List Int) : LInv D0 R D0 (Maps.has D0) [] where
  held := fun f a kl _ => by cases Maps.has D0 kl <;> simp
  same := fun _ _ _ => rfl
  low := fun _ h => h
  got := fun x => ⟨fun h => absurd h (by simp), fun ⟨f, a, kl, _, h1, h2, _⟩ => by rw [h1] at h2; cases h2⟩
theorem linv_in {D0 D : DataW Unit} {R : List Int} {left : Lit → Bool} {acc : List Int} {f : Int} {a : RAct} {kl : Lit} {c : Int} (h : LInv D0 R D left acc) (hk : tkey f a kl) (hl : left kl = true) (hat : ∀ z, D.atKey kl z = .lit (.int .i64 c)) (hf : f ∈ R) :
    LInv D0 R (D.del kl) (fun z => left z && !z.sameKey kl) (acc ++ [c]) where
  held := fun f' a' k' hk' => by
    by_cases he : k' = kl
    · subst he
      obtain ⟨rfl, rfl⟩ := turnV_inj (turn_keyed.inj hk' hk)
      rw [has_del_same, WideAt.sameKey_self (turn_keyed.key hk)]
      simp [hf]
    · rw [has_del_other he, h.held f' a' k' hk']
      have : k'.sameKey kl = false := by
        cases hs : k'.sameKey kl
        · rfl
        · exact absurd (WideAt.sameKey_eq hs) he
      simp [this]
  same := fun k' z hh => by
    by_cases he : k' = kl
    · subst he; rw [has_del_same] at hh; cases hh
    · rw [has_del_other he] at hh
      rw [atKey_del_other he]
      exact h.same k' z hh
  low := fun k' hh => by simp at hh; exact h.low k' hh.1
  got := fun x => by
    have hD : Maps.has D kl = true := by rw [h.held f a kl hk, h.low kl hl, hl]; rfl
    rw [List.mem_append, h.got x]
    constructor
    · rintro (⟨f', a', k', h1, h2, h3, h4⟩ | hx)
      · exact ⟨f', a', k', h1, h2, by rw [h3]; rfl, h4⟩
      · simp at hx
        subst hx
        exact ⟨f, a, kl, hk, h.low kl hl, by simp [WideAt.sameKey_self (turn_keyed.key hk)], hf, fun z => by rw [← h.same kl z hD]; exact hat z⟩
    · rintro ⟨f', a', k', h1, h2, h3, h4, h5⟩
      by_cases he : k' = kl
      · subst he
        right
        have h6 := h5 (.lit (.int .i64 0))
        rw [← h.same k' _ hD, hat] at h6
        simp at h6
        simp [h6]
      · have : k'.sameKey kl = false := by
          cases hs : k'.sameKey kl
          · rfl
          · exact absurd (WideAt.sameKey_eq hs) he
        rw [this] at h3
        exact .inl ⟨f', a', k', h1, h2, by simpa using h3, h4, h5⟩
theorem linv_out {D0 D : DataW Unit} {R : List Int} {left : Lit → Bool} {acc : List Int} {f : Int} {a : RAct} {kl : Lit} (h : LInv D0 R D left acc) (hk : tkey f a kl) (hl : left kl = true) (hf : f ∉ R) :
    LInv D0 R D (fun z => left z && !z.sameKey kl) acc where
  held := fun f' a' k' hk' => by
    rw [h.held f' a' k' hk']
    by_cases he : k' = kl
    · subst he
      obtain ⟨rfl, rfl⟩ := turnV_inj (turn_keyed.inj hk' hk)
      simp [hl, hf]
    · have : k'.sameKey kl = false := by
        cases hs : k'.sameKey kl
        · rfl
        · exact absurd (WideAt.sameKey_eq hs) he
      simp [this]
  same := h.same
  low := fun k' hh => by simp at hh; exact h.low k' hh.1
  got := fun x => by
    rw [h.got x]
    constructor
    · rintro ⟨f', a', k', h1, h2, h3, h4⟩
      exact ⟨f', a', k', h1, h2, by rw [h3]; rfl, h4⟩
    · rintro ⟨f', a', k', h1, h2, h3, h4, h5⟩
      by_cases he : k' = kl
      · subst he
        obtain ⟨rfl, rfl⟩ := turnV_inj (turn_keyed.inj h1 hk)
        exact absurd h4 hf
      · have : k'.sameKey kl = false := by
          cases hs : k'.sameKey kl
          · rfl
          · exact absurd (WideAt.sameKey_eq hs) he
        rw [this] at h3
        exact ⟨f', a', k', h1, h2, by simpa using h3, h4, h5⟩
def GraphD (m : Mach) (es : List REdge) (D : DataW Unit) : Prop := ∀ f a kl, tkey f a kl →
    (Maps.has D kl = true → ∃ e ∈ es, e.src = f ∧ actE m f e = a ∧ ∀ z, D.atKey kl z = .lit (.int .i64 e.dst)) ∧ (Maps.has D kl = false → ∀ e ∈ es, ¬ (e.src = f ∧ actE m f e = a))
theorem edge_same {m : Mach} (hm : machB m = true) {e e' : REdge} (he : e ∈ m.edges) (he' : e' ∈ m.edges) (hs : e.src = e'.src) (hl : e.label = e'.label) : e = e' := by
  obtain ⟨i, hi, rfl⟩ := List.getElem_of_mem he
  obtain ⟨j, hj, rfl⟩ := List.getElem_of_mem he'
  obtain rfl := edges_one hm i j hi hj hs hl
  rfl
theorem linv_end {m : Mach} {es : List REdge} {D0 D : DataW Unit} {R : List Int} {left : Lit → Bool} {acc : List Int} (hm : machB m = true) (hf : m.fit) (hsub : ∀ e ∈ es, e ∈ m.edges) (h0 : GraphD m es D0) (h : LInv D0 R D left acc) (hl : ∀ kl, left kl = false) :
    GraphD m (es.filter (awayB R)) D ∧ ∀ x, x ∈ acc ↔ ∃ e ∈ es, e.src ∈ R ∧ e.dst = x := by
  have hkey : ∀ e ∈ es, ∃ kl, tkey e.src (actE m e.src e) kl := fun e he => by
    have h1 := edge_bounds hm (hsub e he)
    have h2 := mach_40 hm
    exact turn_key e.src _ ⟨by omega, by omega⟩ (act_rng hm (hsub e he) _) (act_ok hf (hsub e he) _)
  refine ⟨fun f a kl hk => ⟨fun hh => ?_, fun hh e he => ?_⟩, fun x => ⟨fun hx => ?_, fun ⟨e, he, hs, hd⟩ => ?_⟩⟩
  · have hh' := hh
    rw [h.held f a kl hk, hl kl] at hh'
    simp at hh'
    obtain ⟨e, he, h1, h2, h3⟩ := (h0 f a kl hk).1 hh'.1
    exact ⟨e, List.mem_filter.2 ⟨he, away_iff.2 (by rw [h1]; exact hh'.2)⟩, h1, h2, fun z => by rw [h.same kl z hh]; exact h3 z⟩
  · obtain ⟨he1, he2⟩ := List.mem_filter.1 he
    rintro ⟨h1, h2⟩
    rw [h.held f a kl hk, hl kl] at hh
    have h3 := away_iff.1 he2
    rw [h1] at h3
    simp [h3] at hh
    exact (h0 f a kl hk).2 hh e he1 ⟨h1, h2⟩
  · obtain ⟨f, a, kl, hk, h1, h2, h3, h4⟩ := (h.got x).1 hx
    obtain ⟨e, he, rfl, he2, he3⟩ := (h0 f a kl hk).1 h1
    have h5 := he3 (.lit (.int .i64 0))
    rw [h4] at h5
    simp at h5
    exact ⟨e, he, h3, h5.symm⟩
  · obtain ⟨kl, hk⟩ := hkey e he
    have hh : Maps.has D0 kl = true := by
      cases hq : Maps.has D0 kl
      · exact absurd ⟨rfl, rfl⟩ ((h0 _ _ kl hk).2 hq e he)
      · rfl
    obtain ⟨e', he', h1, h2, h3⟩ := (h0 _ _ kl hk).1 hh
    have hlab : e'.label = e.label := by
      have := congrArg RAct.label h2
      simpa [actE] using this
    obtain rfl := edge_same hm (hsub e' he') (hsub e he) h1 hlab
    exact (h.got x).2 ⟨_, _, kl, hk, hh, hl kl, hs, fun z => by rw [h3 z, hd]⟩
end Go.Proofs.Ytcdlceldokhnbaa
