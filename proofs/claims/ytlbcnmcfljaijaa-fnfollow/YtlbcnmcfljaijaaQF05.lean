import Derived.Test.YtlbcnmcfljaijaaQF04
import Derived.Deep.RegionHeld3
import Derived.Deep.DeepCutAuto
namespace Go.Proofs.Ytlbcnmcfljaijaa
open Go.RowKit
set_option linter.unusedSimpArgs false
set_option linter.unusedVariables false
attribute [local go_sem ↓] Go.wp_at_zero Go.wp_at_succ

def nobT : ByteArray := ⟨#[110, 111, 98, 111, 100, 121]⟩
structure DrNd (n : Nd) : Prop where
  n1 : n.name.size ≤ 20
  n2 : n.peer.size ≤ 20
  n3 : n.name ≠ nobT
  n4 : n.peer ≠ nobT
def noB (t : ByteArray) : Bool := decide (t.size ≤ 20) && !(t.data.toList == [110, 111, 98, 111, 100, 121])
theorem noB_ne {t : ByteArray} (h : noB t = true) : t.size ≤ 20 ∧ t ≠ nobT := by
  simp only [noB, Bool.and_eq_true, decide_eq_true_eq] at h
  refine ⟨h.1, fun e => ?_⟩
  subst e
  exact absurd h.2 (by decide)
theorem dr_nd {n : Nd} (h1 : noB n.name = true) (h2 : noB n.peer = true) : DrNd n := ⟨(noB_ne h1).1, (noB_ne h2).1, (noB_ne h1).2, (noB_ne h2).2⟩
theorem dr_app {l : List Nd} (h : ∀ n ∈ l, DrNd n) {r : List Nd} (hr : ∀ n ∈ r, DrNd n) : ∀ n ∈ l ++ r, DrNd n := fun n hn => by
  rcases List.mem_append.1 hn with hn | hn
  · exact h n hn
  · exact hr n hn
structure MdAt (w wr : World) (sb : Nat) (ao : Option Addr) (len cap : Nat) (v : Value) (l : List Nd) : Prop where
  own : NdOwn wr w.heap.size v l
  ok : ∀ n ∈ l, DrNd n
  src : Src wr sb ao len cap
  ap : Apart w wr [sb]
theorem Src.apart {w w' : World} {sb : Nat} {ao : Option Addr} {len cap : Nat} {bs : List Nat} (h : Src w sb ao len cap) (hA : Apart w w' bs) (hb : ∀ b ∈ bs, sb < b) : Src w' sb ao len cap := by
  have hsb : sb ∉ bs := fun hm => by have := hb sb hm; omega
  have hk : w'.heap[sb]? = w.heap[sb]? := hA.block sb h.lt hsb
  obtain ⟨p, hp, c1⟩ := h.c1
  obtain ⟨m, hm, c2⟩ := h.c2
  obtain ⟨k, hk3, c3⟩ := h.c3
  refine ⟨(World.cell?_of_block (a := ⟨sb, 0, none⟩) hk).trans h.c0, ⟨p, hp, (World.cell?_of_block (a := ⟨sb, 1, none⟩) hk).trans c1⟩, ⟨m, hm, (World.cell?_of_block (a := ⟨sb, 2, none⟩) hk).trans c2⟩, ⟨k, hk3, (World.cell?_of_block (a := ⟨sb, 3, none⟩) hk).trans c3⟩, fun j => (World.frozen?_of_block (a := ⟨sb, j, none⟩) hk).trans (h.fr j), fun i hi => ?_⟩
  obtain ⟨b, off, z, e, hbs, hc, hz⟩ := h.row i hi
  exact ⟨b, off, z, e, hbs, hA.cell' hc (fun hm => by have := hb b hm; omega), hz⟩
theorem Apart.new {a b c : World} {l l' : List Nat} (h : Apart a b l) (h' : Apart b c l') (hn : ∀ x ∈ l', a.heap.size ≤ x) : Apart a c l := ⟨h'.os.trans h.os, h'.tape.trans h.tape, h'.output.trans h.output, Nat.le_trans h.size h'.size, fun x hx hm => (h'.block x (Nat.lt_of_lt_of_le hx h.size) (fun hm' => by have := hn x hm'; omega)).trans (h.block x hx hm)⟩
theorem MdAt.drawn {w wr wn : World} {sb : Nat} {ao : Option Addr} {len cap : Nat} {v : Value} {l : List Nd} (h : MdAt w wr sb ao len cap v l) (hsb : sb < w.heap.size) (hs : Src wn sb ao len cap) (hg : wr.grownBy wn (some sb)) : MdAt w wn sb ao len cap v l :=
  ⟨owns_keep h.own (Apart.grown hg) (fun b hb hm => by simp at hm; have := (owns_fresh h.own).lo b hb; omega), h.ok, hs, (h.ap.trans (Apart.grown hg)).sub (by simp)⟩
theorem MdAt.below {w wr wn : World} {sb : Nat} {ao : Option Addr} {len cap : Nat} {v : Value} {l : List Nd} (h : MdAt w wr sb ao len cap v l) (hb : Below wr.heap.size wr wn) : MdAt w wn sb ao len cap v l :=
  ⟨owns_below h.own hb, h.ok, h.src.apart (below_apart hb) (by simp), h.ap.then hb⟩
theorem MdAt.push {w wr w4 : World} {sb : Nat} {ao : Option Addr} {len cap : Nat} {v v4 : Value} {l : List Nd} (h : MdAt w wr sb ao len cap v l) (hsb : sb < w.heap.size) (r : List Nd) (hr : ∀ n ∈ r, DrNd n) (o : Obj)
    (hown : w4.ownsRow w.heap.size 87 5 v4 (l.length + r.length) (l.flatMap Nd.cells ++ r.flatMap Nd.cells)) (hg : (wr.alloc o).grownBy w4 v.ownBlock) : MdAt w w4 sb ao len cap v4 (l ++ r) := by
  obtain ⟨p, c, hv⟩ := owns_shape h.own
  have hA : Apart wr w4 (vblocks v) := by
    rw [hv] at hg ⊢
    have := (below_apart (malloc1 wr o)).trans (grownBy_apart hg)
    rwa [List.nil_append] at this
  have lo := (owns_fresh h.own).lo
  exact ⟨NdOwn.snoc hown, dr_app h.ok hr, h.src.apart hA (fun b hb => by have := lo b hb; omega), h.ap.new hA lo⟩
end Go.Proofs.Ytlbcnmcfljaijaa
namespace Go.Proofs.Ytlbcnmcfljaijaa
open Go.RowKit
set_option linter.unusedSimpArgs false
set_option linter.unusedVariables false
attribute [local go_sem ↓] Go.wp_at_zero Go.wp_at_succ

theorem node_new1 (w : World) (n : Nd) : ∀ j u, n.cells[j]? = some u → (w.alloc (.cells #[.int .i64 n.op, .string n.name, .string n.peer, .int .i64 n.many, .int .i64 n.sort] 87)).cell? (Addr.add ⟨w.heap.size, 0, none⟩ j) = some u := fun j u hj =>
  NdOwn.cell (l := [n]) (c := 1) (nd_lit w n 0 w.heap.size rfl (Nat.zero_le _)) j u (by simpa using hj)
def MdAns (w w' : World) (e : Ending) (sb : Nat) (ao : Option Addr) (len cap : Nat) : Prop := ∃ v l, e = .returned v ∧ l.length ≤ 10 ∧ MdAt w w' sb ao len cap v l
def xT : ByteArray := ⟨#[120]⟩
def emT : ByteArray := ⟨#[]⟩
structure MdN (w wr : World) (sb : Nat) (ao : Option Addr) (len cap nb : Nat) (v : Value) (l : List Nd) : Prop where
  md : MdAt w wr sb ao len cap v l
  n0 : wr.cell? ⟨nb, 0, none⟩ = some (.string ⟨#[97]⟩)
  n1 : wr.cell? ⟨nb, 1, none⟩ = some (.string ⟨#[98]⟩)
  n2 : wr.cell? ⟨nb, 2, none⟩ = some (.string ⟨#[99]⟩)
  off : nb ∉ vblocks v
  nb : w.heap.size ≤ nb ∧ nb < wr.heap.size
def nmO : Obj := .cells #[.string ⟨#[97]⟩, .string ⟨#[98]⟩, .string ⟨#[99]⟩] 9
theorem md_names {w W w5 : World} {sb : Nat} {ao : Option Addr} {len cap : Nat} {v : Value} {l : List Nd} (h : MdAt w W sb ao len cap v l) (hsb : sb < w.heap.size) (hs : Src w5 sb ao len cap) (hg : (W.alloc nmO).grownBy w5 (some sb)) : MdN w w5 sb ao len cap W.heap.size v l := by
  have hz := h.ap.size
  have hA := Apart.grown hg
  refine ⟨(h.below (malloc1 W nmO)).drawn hsb hs hg, hA.cell' (by simp [nmO]) (by simp; omega), hA.cell' (by simp [nmO]) (by simp; omega), hA.cell' (by simp [nmO]) (by simp; omega), fun hm => ?_, hz, ?_⟩
  · have := (owns_fresh h.own).hi _ hm
    omega
  · have := hA.size
    simp at this
    omega
theorem MdN.drawn {w wr wn : World} {sb : Nat} {ao : Option Addr} {len cap nb : Nat} {v : Value} {l : List Nd} (h : MdN w wr sb ao len cap nb v l) (hsb : sb < w.heap.size) (hs : Src wn sb ao len cap) (hg : wr.grownBy wn (some sb)) : MdN w wn sb ao len cap nb v l := by
  have hA := Apart.grown hg
  have hn := h.nb
  exact ⟨h.md.drawn hsb hs hg, hA.cell' h.n0 (by simp; omega), hA.cell' h.n1 (by simp; omega), hA.cell' h.n2 (by simp; omega), h.off, hn.1, Nat.lt_of_lt_of_le hn.2 hA.size⟩
theorem MdN.below {w wr wn : World} {sb : Nat} {ao : Option Addr} {len cap nb : Nat} {v : Value} {l : List Nd} (h : MdN w wr sb ao len cap nb v l) (hb : Below wr.heap.size wr wn) : MdN w wn sb ao len cap nb v l := by
  have hA := below_apart hb
  have hn := h.nb
  exact ⟨h.md.below hb, hA.cell' h.n0 (by simp), hA.cell' h.n1 (by simp), hA.cell' h.n2 (by simp), h.off, hn.1, Nat.lt_of_lt_of_le hn.2 hA.size⟩
theorem MdN.push {w wr w4 : World} {sb : Nat} {ao : Option Addr} {len cap nb : Nat} {v v4 : Value} {l : List Nd} (h : MdN w wr sb ao len cap nb v l) (hsb : sb < w.heap.size) (r : List Nd) (hr : ∀ n ∈ r, DrNd n) (o : Obj)
    (hown : w4.ownsRow w.heap.size 87 5 v4 (l.length + r.length) (l.flatMap Nd.cells ++ r.flatMap Nd.cells)) (hg : (wr.alloc o).grownBy w4 v.ownBlock) (hat : v4.ownBlock = v.ownBlock ∨ v4.ownBlock = some (wr.alloc o).heap.size) : MdN w w4 sb ao len cap nb v4 (l ++ r) := by
  obtain ⟨p, c, hv⟩ := owns_shape h.md.own
  obtain ⟨p4, c4, hv4⟩ := owns_shape hown
  have hA : Apart wr w4 (vblocks v) := by
    rw [hv] at hg ⊢
    have := (below_apart (malloc1 wr o)).trans (grownBy_apart hg)
    rwa [List.nil_append] at this
  have hn := h.nb
  refine ⟨h.md.push hsb r hr o hown hg, hA.cell' h.n0 h.off, hA.cell' h.n1 h.off, hA.cell' h.n2 h.off, fun hm => ?_, hn.1, Nat.lt_of_lt_of_le hn.2 hA.size⟩
  have hm' := (own_blocks hv4).2 hm
  rcases hat with e | e
  · rw [e] at hm'
    exact h.off ((own_blocks hv).1 hm')
  · rw [e] at hm'
    simp at hm'
    omega
theorem MdN.name {w wr : World} {sb : Nat} {ao : Option Addr} {len cap nb : Nat} {v : Value} {l : List Nd} (h : MdN w wr sb ao len cap nb v l) (k : Nat) (hk : k < 3) : ∃ x, noB x = true ∧ ∀ W, MdN w W sb ao len cap nb v l → W.cell? ⟨nb, k, none⟩ = some (.string x) := by
  match k, hk with
  | 0, _ => exact ⟨_, by decide, fun W h => h.n0⟩
  | 1, _ => exact ⟨_, by decide, fun W h => h.n1⟩
  | 2, _ => exact ⟨_, by decide, fun W h => h.n2⟩
  | k + 3, h => omega
end Go.Proofs.Ytlbcnmcfljaijaa
namespace Go.Proofs.Ytlbcnmcfljaijaa
open Go.RowKit
set_option linter.unusedSimpArgs false
set_option linter.unusedVariables false
attribute [local go_sem ↓] Go.wp_at_zero Go.wp_at_succ

def pkT : List ByteArray := [⟨#[108]⟩, ⟨#[109]⟩, ⟨#[110]⟩]
def pkO : Obj := .cells #[.string ⟨#[108]⟩, .string ⟨#[109]⟩, .string ⟨#[110]⟩] 9
theorem pk_at (W : World) : TextsAt (W.alloc pkO) (.slice (some ⟨W.heap.size, 0, none⟩) 3 3) pkT :=
  texts_own (ls := pkT) (World.ownsRow_lit (e := 9) (size := 1) (base := W.heap.size) W (pkT.map Value.string).toArray 3 (Nat.le_refl _) (by simp [maxLen]) rfl) (by simp [pkT])
theorem em_no : noB emT = true := by decide
theorem pk_no {x : ByteArray} (h : x ∈ pkT) : noB x = true := by
  simp only [pkT, List.mem_cons, List.not_mem_nil, or_false] at h
  rcases h with rfl | rfl | rfl <;> decide
theorem two_new (w : World) (n m : Nd) : ∀ j u, ([n, m].flatMap Nd.cells)[j]? = some u → (w.alloc (.cells #[.int .i64 n.op, .string n.name, .string n.peer, .int .i64 n.many, .int .i64 n.sort, .int .i64 m.op, .string m.name, .string m.peer, .int .i64 m.many, .int .i64 m.sort] 87)).cell? (Addr.add ⟨w.heap.size, 0, none⟩ j) = some u := fun j u hj => by
  have e : Addr.add ⟨w.heap.size, 0, none⟩ j = ⟨w.heap.size, j, none⟩ := by
    unfold Addr.add
    split <;> simp_all
  rw [e]
  exact (BoxL.new w ([n, m].flatMap Nd.cells) 87).cell j u hj
theorem nm_any (k : Nat) (hk : k < 3) : ∃ x, noB x = true ∧ ∀ {w W : World} {sb : Nat} {ao : Option Addr} {len cap nb : Nat} {v : Value} {l : List Nd}, MdN w W sb ao len cap nb v l → W.cell? ⟨nb, k, none⟩ = some (.string x) := by
  match k, hk with
  | 0, _ => exact ⟨_, by decide, fun h => h.n0⟩
  | 1, _ => exact ⟨_, by decide, fun h => h.n1⟩
  | 2, _ => exact ⟨_, by decide, fun h => h.n2⟩
  | k + 3, h => omega
theorem md_first {w W : World} {sb : Nat} {ao : Option Addr} {len cap : Nat} {v : Value} {l : List Nd} (h : MdAt w W sb ao len cap v l) (h1 : 1 ≤ l.length) : ∃ g c z, v = .slice (some ⟨g, 0, none⟩) l.length c ∧ W.cell? ⟨g, 0, none⟩ = some (.int .i64 z) := by
  obtain ⟨g, c, e, hg, hb⟩ := h.own.at_ h1
  match l, h1 with
  | n :: l, _ => exact ⟨g, c, n.op, e, owns_cell h.own e 0 _ (by simp [Nd.cells])⟩
set_option maxRecDepth 100000 in
set_option maxHeartbeats 4000000 in
theorem made_any (sb : Nat) (ao : Option Addr) (len cap : Nat) (w : World) (hl : len ≤ 1048576) (h : Src w sb ao len cap) :
    Calls Try.prog 45 #[.pointer (some ⟨sb, 0, none⟩)] w fun e w' => MdAns w w' e sb ao len cap := by
  obtain ⟨i0, hi, hz0, hz1, hz2⟩ := info_parts Try.infoNd
  have HI := hide (And.intro hi (And.intro hz0 (And.intro hz1 hz2)))
  have hsb := h.lt
  have HM0 : Hid (MdAt w (w.alloc (.cells #[] 87)) sb ao len cap (.slice (some ⟨w.heap.size, 0, none⟩) 0 0) []) := hide ⟨owns_empty (w.alloc (.cells #[] 87)) w.heap.size 87 5 w.heap.size (Nat.le_refl _) (mheap_new _ _ _ rfl), (fun n hn => by cases hn), h.apart (below_apart (malloc1 w _)) (by simp), (below_apart (malloc1 w _)).sub (by simp)⟩
  have HO2 : Hid (∀ w1, Src w1 sb ao len cap → Calls Try.prog 17 #[.pointer (some ⟨sb, 0, none⟩), .int .i64 2] w1 fun e w' => ∃ b : Bool, e = .returned (.bool b) ∧ Src w' sb ao len cap ∧ w1.grownBy w' (some sb)) := hide (fun w1 hs => n_one sb ao len cap 2 w1 (by omega) (by omega) hl hs)
  have HN : Hid (∀ (m : Int) w1, 1 < m → m ≤ 100 → Src w1 sb ao len cap → Calls Try.prog 14 #[.pointer (some ⟨sb, 0, none⟩), .int .i64 m] w1 fun e w' => ∃ r : Int, e = .returned (.int .i64 r) ∧ 0 ≤ r ∧ r < m ∧ Src w' sb ao len cap ∧ w1.grownBy w' (some sb)) := hide (fun m w1 h1 h2 hs => n_any sb ao len cap m w1 h1 (by omega) hl hs)
  clear h hi hz0 hz1 hz2
  go_enter Try.func45, Try.ntmps45
  go_upto_if 10 with (first
    | (go_at_call 17; refine (HO2.out _ HM0.out.src).mono ?_; rintro e w1 ⟨b1, rfl, hs, hg⟩; have HM1 := hide (HM0.out.drawn hsb hs hg); have z1 := HM1.out.ap.size; clear hs hg HM0))
  go_cut [3] (fun lv wx => ∃ l : List Nd, l.length ≤ 1 ∧ MdAt w wx sb ao len cap lv l)
  case first =>
    cases b1
    · go_wp2_with fail
      go_meet
      exact ⟨[], by simp, HM1.out⟩
    · go_wp2_with (first
        | (at_builtin; refine wpList_append_own_at _ rfl (.tmp 11) (.tmp 13) 61 rfl w.heap.size 87 i0 (.agg #[.int .i64 0, .string ByteArray.empty, .string ByteArray.empty, .int .i64 0, .int .i64 0]) 5 56 Try.underlying61 HI.out.1 HI.out.2.1 HI.out.2.2.1 HI.out.2.2.2 rfl (by decide) (.slice (some ⟨w.heap.size, 0, none⟩) 0 0) 0 [] rfl (owns_below HM1.out.own (malloc1 _ _)) ⟨w1.heap.size, 0, none⟩ 1 1 (Nd.cells ⟨2, xT, emT, 0, 0⟩) rfl rfl (node_new1 _ ⟨2, xT, emT, 0, 0⟩) (Nd.cells_one _) (by unfold maxLen; omega) (by omega) (by simp; omega) ?_; intro v2 w2 hown2 hgr2 _ _; have HM2 := hide (HM1.out.push hsb [⟨2, xT, emT, 0, 0⟩] (by intro n hn; simp at hn; subst hn; exact dr_nd (by decide) (by decide)) _ hown2 hgr2); have z2 := HM2.out.ap.size; obtain ⟨p2, c2, rfl⟩ := owns_shape hown2; clear hown2 hgr2))
      go_meet
      exact ⟨_, by simp, HM2.out⟩
  case rest =>
    obtain ⟨l0, hl0, hm0⟩ := hcut
    have HM2 := hide hm0
    obtain ⟨p0, c0, hv0⟩ := owns_shape hm0.own
    subst hv0
    clear hm0 HM1 z1
    go_wp2_with (first
      | (go_at_call 14; have HY := hide (HM2.out.below (malloc1 _ (.cells #[.string ⟨#[97]⟩, .string ⟨#[98]⟩, .string ⟨#[99]⟩] 9))); refine (HN.out 4 _ (by omega) (by omega) HY.out.src).mono ?_; rintro e w5 ⟨r, rfl, hr0, hr1, hs, hg⟩; obtain ⟨R, rfl⟩ : ∃ R : Nat, r = (R : Int) := ⟨r.toNat, by omega⟩; have HN5 := hide (md_names HM2.out hsb hs hg); clear hs hg HY HM2))
    obtain ⟨NBB, hNB⟩ : ∃ x, wc.heap.size = x := ⟨_, rfl⟩
    rw [hNB] at HN5 ⊢
    clear hNB
    go_loopw [3, 5] (fun lv kv wr => ∃ (k : Nat) (l : List Nd), kv = .int .i64 (k : Int) ∧ k ≤ 4 ∧ l.length + 2 * k ≤ 9 ∧ 1 ≤ l.length + k ∧ MdN w wr sb ao len cap NBB lv l) (fun _ kv _ => (intOf kv).toNat)
    case atStart => exact ⟨1 + R, _, by go_num, by omega, by omega, by omega, HN5.out⟩
    case round =>
      clear HN5
      obtain ⟨k, l, rfl, hk4, hlk, h1k, hmd⟩ := hrel
      have HMD := hide hmd
      obtain ⟨p, c, rfl⟩ := owns_shape hmd.md.own
      have hnbz := hmd.nb
      clear hmd
      by_cases hk0 : 0 < k
      · go_wp2_with (first
          | (go_at_call 14; (fail_if_success (have := HA1)); refine (HN.out 3 _ (by omega) (by omega) HMD.out.md.src).mono ?_; rintro e wa ⟨ra, rfl, ha0, ha1, hs, hg⟩; obtain ⟨ia, rfl⟩ : ∃ k : Nat, ra = (k : Int) := ⟨ra.toNat, by omega⟩; have HA1 := hide (HMD.out.drawn hsb hs hg); clear hs hg)
          | (go_at_call 14; have HMM := HA1; (fail_if_success (have := HA2)); refine (HN.out 2 _ (by omega) (by omega) HA1.out.md.src).mono ?_; rintro e wb ⟨rb, rfl, hb0, hb1, hs, hg⟩; obtain ⟨ib, rfl⟩ : ∃ k : Nat, rb = (k : Int) := ⟨rb.toNat, by omega⟩; have HA2 := hide (HA1.out.drawn hsb hs hg); clear hs hg))
        obtain ⟨ij, hij, hij3⟩ : ∃ ij : Nat, ((ia : Int) + 1 + (ib : Int)) % 3 = (ij : Int) ∧ ij < 3 := ⟨(ia + 1 + ib) % 3, by omega, by omega⟩
        rw [hij]
        have hij4 : (ij : Int) < 3 := by omega
        have hij0 : (0 : Int) ≤ (ij : Int) := by omega
        obtain ⟨X1, hx1, hX1⟩ := nm_any ia (by omega)
        obtain ⟨X2, hx2, hX2⟩ := nm_any ij hij3
        have HX1 : Hid (∀ W v l, MdN w W sb ao len cap NBB v l → W.cell? ⟨NBB, ia, none⟩ = some (.string X1)) := hide (fun _ _ _ h => hX1 h)
        have HX2 : Hid (∀ W v l, MdN w W sb ao len cap NBB v l → W.cell? ⟨NBB, ij, none⟩ = some (.string X2)) := hide (fun _ _ _ h => hX2 h)
        have HNO := hide (And.intro hx1 hx2)
        have c1 := hX1 HA2.out
        have c2 := hX2 HA2.out
        have zb := HA2.out.nb.2
        have HA3 := hide (HA2.out.below (Below.refl _ _).drew)
        have hwb : w.heap.size ≤ wb.heap.size := HA2.out.md.ap.size
        clear hX1 hX2 hx1 hx2 hij HMD HA1
        go_region_held3 (fun w' => w'.cell? ⟨NBB, ia, none⟩ = some (.string X1) ∧ w'.cell? ⟨NBB, ij, none⟩ = some (.string X2)) (first | exact ⟨c1, c2⟩ | exact ⟨d1, d2⟩ | exact ⟨e1, e2⟩ | exact ⟨g1, g2⟩ | go_keep) (first
          | (go_simp; go_at_call 31; refine (pick_any sb ao len cap pkT (.slice (some ⟨wb.heap.size, 0, none⟩) 3 3) (wb.drew.alloc pkO) hl (by simp [pkT]) (by simp [pkT]) (pk_at wb.drew) (by simp [vblocks, cellBlocks]; omega) (HA3.out.below (malloc1 _ _)).md.src).mono ?_; rintro e wp ⟨xp, hxp, rfl, hs, hg⟩; have HP := hide ((HA3.out.below (malloc1 _ pkO)).drawn hsb hs hg); have HXP := hide (pk_no hxp); have d1 := HX1.out _ _ _ HP.out; have d2 := HX2.out _ _ _ HP.out; have zp := HP.out.nb.2; clear hs hg hxp)
          | (go_simp; go_at_call 14; refine (HN.out 3 _ (by omega) (by omega) HP.out.md.src).mono ?_; rintro e wq ⟨rq, rfl, hq0, hq1, hs, hg⟩; have HQ := hide (HP.out.drawn hsb hs hg); have e1 := HX1.out _ _ _ HQ.out; have e2 := HX2.out _ _ _ HQ.out; have zq := HQ.out.nb.2; have hwq : w.heap.size ≤ wq.heap.size := HQ.out.md.ap.size; clear hs hg)
          | (refine stepM_at rfl (.tmp 31) (.tmp 47) 61 rfl w.heap.size 87 i0 (.agg #[.int .i64 0, .string ByteArray.empty, .string ByteArray.empty, .int .i64 0, .int .i64 0]) 5 56 Try.underlying61 HI.out.1 HI.out.2.1 HI.out.2.2.1 HI.out.2.2.2 rfl (by decide) (.slice p l.length c) l.length (l.flatMap Nd.cells) (by simp [Act.eval]) (owns_below HQ.out.md.own (malloc1 _ _)) ⟨wq.heap.size, 0, none⟩ 2 2 ([⟨3, X1, X2, 1, 0⟩, ⟨4, xp, emT, 0, rq⟩].flatMap Nd.cells) (by simp [Act.eval]) rfl (two_new wq ⟨3, X1, X2, 1, 0⟩ ⟨4, xp, emT, 0, rq⟩) (nds_one _) (by unfold maxLen; omega) (by omega) (by simp; omega) ?_; intro v8 w8 hown8 hgr8 hat8; have HR := hide (HQ.out.push hsb [⟨3, X1, X2, 1, 0⟩, ⟨4, xp, emT, 0, rq⟩] (by intro n hn; simp at hn; rcases hn with rfl | rfl; exact dr_nd HNO.out.1 HNO.out.2; exact dr_nd HXP.out em_no) _ hown8 hgr8 hat8); have g1 := HX1.out _ _ _ HR.out; have g2 := HX2.out _ _ _ HR.out; obtain ⟨p8, c8, rfl⟩ := owns_shape hown8; clear hown8 hgr8 hat8))
        all_goals
          obtain ⟨K, rfl⟩ : ∃ K, k = K + 1 := ⟨k - 1, by omega⟩
          go_wp2_with fail
          go_roundw
          case rel => exact ⟨K, _, by go_num, by omega, by simp; omega, by simp; omega, HR.out⟩
          case measure => simp [intOf]
      · obtain rfl : k = 0 := by omega
        obtain ⟨g, cg, z, hv, hz⟩ := md_first HMD.out.md (by omega)
        injection hv with e1 e2 e3
        subst e1 e3
        have HS := hide HMD.out.md
        have hwr : w.heap.size ≤ wr.heap.size := HMD.out.md.ap.size
        clear HMD e2
        cases hq : (z == 2)
        · go_wp2_with (first
            | (at_builtin; refine wpList_append_own_at _ rfl (.tmp 62) (.tmp 64) 61 rfl w.heap.size 87 i0 (.agg #[.int .i64 0, .string ByteArray.empty, .string ByteArray.empty, .int .i64 0, .int .i64 0]) 5 56 Try.underlying61 HI.out.1 HI.out.2.1 HI.out.2.2.1 HI.out.2.2.2 rfl (by decide) (.slice (some ⟨g, 0, none⟩) l.length c) l.length (l.flatMap Nd.cells) rfl (owns_below HS.out.own (malloc1 _ _)) ⟨wr.heap.size, 0, none⟩ 1 1 (Nd.cells ⟨0, emT, emT, 0, 0⟩) rfl rfl (node_new1 _ ⟨0, emT, emT, 0, 0⟩) (Nd.cells_one _) (by unfold maxLen; omega) (by omega) (by simp; omega) ?_; intro v9 w9 hown9 hgr9 _ _; have HM9 := hide (HS.out.push hsb [⟨0, emT, emT, 0, 0⟩] (by intro n hn; simp at hn; subst hn; exact dr_nd (by decide) (by decide)) _ hown9 hgr9); obtain ⟨p9, c9, rfl⟩ := owns_shape hown9; clear hown9 hgr9))
          go_ret
          exact ⟨_, _, rfl, by simp; omega, HM9.out⟩
        · go_wp2_with (first
            | (go_at_call 17; refine (HO2.out _ HS.out.src).mono ?_; rintro e w7 ⟨b7, rfl, hs, hg⟩; have HS7 := hide (HS.out.drawn hsb hs hg); have z7 := HS7.out.ap.size; clear hs hg; cases b7)
            | (at_builtin; refine wpList_append_own_at _ rfl (.tmp 62) (.tmp 64) 61 rfl w.heap.size 87 i0 (.agg #[.int .i64 0, .string ByteArray.empty, .string ByteArray.empty, .int .i64 0, .int .i64 0]) 5 56 Try.underlying61 HI.out.1 HI.out.2.1 HI.out.2.2.1 HI.out.2.2.2 rfl (by decide) (.slice (some ⟨g, 0, none⟩) l.length c) l.length (l.flatMap Nd.cells) rfl (owns_below HS7.out.own (malloc1 _ _)) ⟨w7.heap.size, 0, none⟩ 1 1 (Nd.cells ⟨0, emT, emT, 0, 0⟩) rfl rfl (node_new1 _ ⟨0, emT, emT, 0, 0⟩) (Nd.cells_one _) (by unfold maxLen; omega) (by omega) (by simp; omega) ?_; intro v9 w9 hown9 hgr9 _ _; have HM9 := hide (HS7.out.push hsb [⟨0, emT, emT, 0, 0⟩] (by intro n hn; simp at hn; subst hn; exact dr_nd (by decide) (by decide)) _ hown9 hgr9); obtain ⟨p9, c9, rfl⟩ := owns_shape hown9; clear hown9 hgr9)
            | (at_builtin; refine wpList_append_own_at _ rfl (.tmp 58) (.tmp 60) 61 rfl w.heap.size 87 i0 (.agg #[.int .i64 0, .string ByteArray.empty, .string ByteArray.empty, .int .i64 0, .int .i64 0]) 5 56 Try.underlying61 HI.out.1 HI.out.2.1 HI.out.2.2.1 HI.out.2.2.2 rfl (by decide) (.slice (some ⟨g, 0, none⟩) l.length c) l.length (l.flatMap Nd.cells) rfl (owns_below HS7.out.own (malloc1 _ _)) ⟨w7.heap.size, 0, none⟩ 1 1 (Nd.cells ⟨1, xT, emT, 0, 0⟩) rfl rfl (node_new1 _ ⟨1, xT, emT, 0, 0⟩) (Nd.cells_one _) (by unfold maxLen; omega) (by omega) (by simp; omega) ?_; intro v9 w9 hown9 hgr9 _ _; have HM9 := hide (HS7.out.push hsb [⟨1, xT, emT, 0, 0⟩] (by intro n hn; simp at hn; subst hn; exact dr_nd (by decide) (by decide)) _ hown9 hgr9); obtain ⟨p9, c9, rfl⟩ := owns_shape hown9; clear hown9 hgr9))
          all_goals
            go_ret
            exact ⟨_, _, rfl, by simp; omega, HM9.out⟩
end Go.Proofs.Ytlbcnmcfljaijaa
