import Derived.Test.YtlbcnmcfljaijaaQF43
import Derived.Test.YtlbcnmcfljaijaaQF14
import Derived.Test.YtlbcnmcfljaijaaQF17
import Derived.Test.YtlbcnmcfljaijaaQF03
import Derived.Test.YtlbcnmcfljaijaaQF04
import Derived.Test.YtlbcnmcfljaijaaQF07
import Derived.Deep.RegionWith
import Derived.Laws.OwnMore
namespace Go.Proofs.Ytlbcnmcfljaijaa
open Go.RowKit
set_option linter.unusedSimpArgs false
set_option linter.unusedVariables false
attribute [local go_sem ↓] Go.wp_at_zero Go.wp_at_succ

theorem acts_ok {m : Mach} {s : Int} {a : RAct} (hf : m.fit) (h : a ∈ actsR m s) : a.fit ∧ a.rng := by
  unfold actsR at h
  split at h
  · rename_i hc
    rw [Bool.and_eq_true] at hc
    unfold actsV at h
    rw [List.mem_map] at h
    obtain ⟨e, he, rfl⟩ := h
    have he' := (List.mem_filter.1 he).1
    have hb := edge_bounds hc.1 he'
    have hk := state_kind hc.1 s
    refine ⟨⟨?_, hf.2.1 e he'⟩, ?_, ?_⟩
    · show (stAt m s).peer.size ≤ 1048576
      unfold stAt
      cases hg : m.states[s.toNat]? with
      | none => simp
      | some x => exact hf.1 x (List.mem_of_getElem? hg)
    · show i64B (stAt m s).kind
      constructor <;> omega
    · show i64B e.sort
      constructor <;> omega
  · cases h
def lAT : List ByteArray := [⟨#[97]⟩, ⟨#[98]⟩]
def lAO : Obj := .cells #[.string ⟨#[97]⟩, .string ⟨#[98]⟩] 9
theorem lA_at (W : World) : TextsAt (W.alloc lAO) (.slice (some ⟨W.heap.size, 0, none⟩) 2 2) lAT :=
  texts_own (ls := lAT) (World.ownsRow_lit (e := 9) (size := 1) (base := W.heap.size) W (lAT.map Value.string).toArray 2 (Nat.le_refl _) (by simp [maxLen]) rfl) (by simp [lAT])
theorem lA_small {x : ByteArray} (h : x ∈ lAT) : x.size ≤ 20 := by
  simp only [lAT, List.mem_cons, List.not_mem_nil, or_false] at h
  rcases h with rfl | rfl <;> decide
def lGT : List ByteArray := [⟨#[108]⟩, ⟨#[103, 111]⟩]
def lGO : Obj := .cells #[.string ⟨#[108]⟩, .string ⟨#[103, 111]⟩] 9
theorem lG_at (W : World) : TextsAt (W.alloc lGO) (.slice (some ⟨W.heap.size, 0, none⟩) 2 2) lGT :=
  texts_own (ls := lGT) (World.ownsRow_lit (e := 9) (size := 1) (base := W.heap.size) W (lGT.map Value.string).toArray 2 (Nat.le_refl _) (by simp [maxLen]) rfl) (by simp [lGT])
theorem lG_small {x : ByteArray} (h : x ∈ lGT) : x.size ≤ 20 := by
  simp only [lGT, List.mem_cons, List.not_mem_nil, or_false] at h
  rcases h with rfl | rfl <;> decide
def AcAns (w w' : World) (e : Ending) (sb : Nat) (ao : Option Addr) (len cap : Nat) : Prop := ∃ a : RAct, e = .returned a.val ∧ a.fit ∧ a.rng ∧ Src w' sb ao len cap ∧ Apart w w' [sb]
structure AcS (w W : World) (sb : Nat) (ao : Option Addr) (len cap : Nat) : Prop where
  src : Src W sb ao len cap
  ap : Apart w W [sb]
  rx : BoxL W (w.heap.size + 1) [.int .i64 0, .string ⟨#[]⟩, .string ⟨#[]⟩, .int .i64 0]
theorem AcS.drawn {w W Wn : World} {sb : Nat} {ao : Option Addr} {len cap : Nat} (h : AcS w W sb ao len cap) (hsb : sb < w.heap.size) (hs : Src Wn sb ao len cap) (hg : W.grownBy Wn (some sb)) : AcS w Wn sb ao len cap :=
  ⟨hs, (h.ap.trans (Apart.grown hg)).sub (by simp), h.rx.keep (Apart.grown hg) (by simp; omega)⟩
theorem AcS.below {w W Wn : World} {sb : Nat} {ao : Option Addr} {len cap : Nat} (h : AcS w W sb ao len cap) (hb : Below W.heap.size W Wn) : AcS w Wn sb ao len cap :=
  ⟨h.src.apart (below_apart hb) (by simp), h.ap.then hb, h.rx.keep (below_apart hb) (by simp)⟩
theorem AcS.put {w W : World} {sb b o : Nat} {ao : Option Addr} {len cap : Nat} (h : AcS w W sb ao len cap) (hsb : sb < w.heap.size) (hb : w.heap.size + 1 < b) (x : Value) : AcS w (W.setCell ⟨b, o, none⟩ x) sb ao len cap :=
  ⟨h.src.apart (setCell_apart W b o x) (fun c hc => by simp at hc; omega), h.ap.new (setCell_apart W b o x) (fun c hc => by simp at hc; omega), h.rx.keep (setCell_apart W b o x) (by simp; omega)⟩
theorem AcS.done {w W : World} {sb : Nat} {ao : Option Addr} {len cap : Nat} (h : AcS w W sb ao len cap) (hsb : sb < w.heap.size) (a : RAct) (hf : a.fit) (hr : a.rng) (x0 x1 x2 x3 : Value) :
    AcAns w ((((W.setCell ⟨w.heap.size + 1, 0, none⟩ x0).setCell ⟨w.heap.size + 1, 1, none⟩ x1).setCell ⟨w.heap.size + 1, 2, none⟩ x2).setCell ⟨w.heap.size + 1, 3, none⟩ x3) (.returned a.val) sb ao len cap ∧ BoxL ((((W.setCell ⟨w.heap.size + 1, 0, none⟩ x0).setCell ⟨w.heap.size + 1, 1, none⟩ x1).setCell ⟨w.heap.size + 1, 2, none⟩ x2).setCell ⟨w.heap.size + 1, 3, none⟩ x3) (w.heap.size + 1) [x0, x1, x2, x3] := by
  have hA := ap4 W (w.heap.size + 1) x0 x1 x2 x3
  exact ⟨⟨a, rfl, hf, hr, h.src.apart hA (fun b hb => by simp at hb; omega), h.ap.new hA (fun b hb => by simp at hb; omega)⟩, (((h.rx.set 0 (by simp) x0).set 1 (by simp) x1).set 2 (by simp) x2).set 3 (by simp) x3⟩
theorem act_cells {w : World} {base g c : Nat} {L : List RAct} (h : RActOwn w base (.slice (some ⟨g, 0, none⟩) L.length c) L) (k : Nat) (hk : k < L.length) : w.cell? ⟨g, k * 4, none⟩ = some (.int .i64 L[k].kind) ∧ w.cell? ⟨g, k * 4 + 1, none⟩ = some (.string L[k].peer) ∧ w.cell? ⟨g, k * 4 + 2, none⟩ = some (.string L[k].label) ∧ w.cell? ⟨g, k * 4 + 3, none⟩ = some (.int .i64 L[k].sort) := by
  have hc : ∀ i (hi : i < 4) (u : Value), L[k].cells[i]? = some u → w.cell? ⟨g, k * 4 + i, none⟩ = some u := fun i hi u hu => owns_cell h rfl _ _ ((flat_get RAct.cells 4 RAct.cells_len L k hk i hi).trans hu)
  exact ⟨hc 0 (by omega) _ rfl, hc 1 (by omega) _ rfl, hc 2 (by omega) _ rfl, hc 3 (by omega) _ rfl⟩
theorem drawn_rng {k s : Int} {p l : ByteArray} (h1 : 0 ≤ k) (h2 : k ≤ 100) (h3 : 0 ≤ s) (h4 : s ≤ 100) : (RAct.mk k p l s).rng := ⟨show i64B k from ⟨by omega, by omega⟩, show i64B s from ⟨by omega, by omega⟩⟩
theorem ac_res {W : World} {rb : Nat} {a : RAct} (h : BoxL W rb a.cells) {tmps : Array Value} (hp : tmps[6]? = some (.pointer (some ⟨rb, 0, none⟩))) : Sem.run Try.prog (results Try.f15 tmps) W = .ok a.val W := by
  have b0 := h.cell 0 _ rfl
  have b1 := h.cell 1 _ rfl
  have b2 := h.cell 2 _ rfl
  have b3 := h.cell 3 _ rfl
  simp [results, Try.results15, go_sem, b0, b1, b2, b3, hp, RAct.val]
set_option maxRecDepth 100000 in
set_option maxHeartbeats 4000000 in
theorem act_any (sb : Nat) (ao : Option Addr) (len cap : Nat) (m : Mach) (v : Value) (s : Int) (w : World) (hl : len ≤ 1048576) (hf : m.fit) (hv : MachAt w v m) (h : Src w sb ao len cap) :
    Calls Try.prog 15 #[.pointer (some ⟨sb, 0, none⟩), v, .int .i64 s] w fun e w' => AcAns w w' e sb ao len cap := by
  have hsb := h.lt
  have HS : Hid (∀ o p : Obj, Src ((w.alloc o).alloc p) sb ao len cap) := hide (fun o p => src_alloc (src_alloc h o) p)
  have HN : Hid (∀ (m : Int) w1, 1 ≤ m → m ≤ 100 → Src w1 sb ao len cap → Calls Try.prog 14 #[.pointer (some ⟨sb, 0, none⟩), .int .i64 m] w1 fun e w' => ∃ r : Int, e = .returned (.int .i64 r) ∧ 0 ≤ r ∧ r < m ∧ Src w' sb ao len cap ∧ w1.grownBy w' (some sb)) := hide (fun m w1 h1 h2 hs => n_pos sb ao len cap m w1 h1 (by omega) hl hs)
  have HV : Hid (∀ W, Below w.heap.size w W → MachAt W v m) := hide (fun W hb => hv.carry hb)
  have HF := hide hf
  obtain ⟨sv, ev, rfl, hs, he⟩ := hv
  obtain ⟨sa, sc, rfl, -⟩ := hs
  obtain ⟨ea, ec, rfl, -⟩ := he
  obtain ⟨L, hL⟩ : ∃ L, actsR m s = L := ⟨_, rfl⟩
  have hl80 := actsR_len80 m s
  rw [hL] at hl80
  have HOK : Hid (∀ a ∈ L, a.fit ∧ a.rng) := hide (fun a ha => acts_ok hf (by rw [hL]; exact ha))
  have HAO : Hid (∀ (v : Value) (W : World), MachAt W v m → Calls Try.prog 32 #[v, .int .i64 s] W fun e w' => ∃ v', e = .returned v' ∧ RActOwn w' W.heap.size v' L ∧ Below W.heap.size W w') := hide (fun v W h => by rw [← hL]; exact s_actsOf m s v W hf h)
  have HX : Hid (∀ o : Obj, BoxL ((w.alloc o).alloc (.cells #[.int .i64 0, .string ⟨#[]⟩, .string ⟨#[]⟩, .int .i64 0] 34)) (w.heap.size + 1) [.int .i64 0, .string ⟨#[]⟩, .string ⟨#[]⟩, .int .i64 0]) := hide (fun o => by have := BoxL.new (w.alloc o) [.int .i64 0, .string ⟨#[]⟩, .string ⟨#[]⟩, .int .i64 0] 34; simpa using this)
  have HB2 : Hid (∀ o p : Obj, Below w.heap.size w ((w.alloc o).alloc p)) := hide (fun o p => (malloc1 _ _).trans ((malloc1 _ _).mono (by simp)))
  clear hL h hf
  have hd := HB2
  have HG : Hid (∀ (W : World), AcS w W sb ao len cap → Calls Try.prog 14 #[.pointer (some ⟨sb, 0, none⟩), .int .i64 2] W fun e w' => ∃ r : Int, e = .returned (.int .i64 r) ∧ 0 ≤ r ∧ r < 2 ∧ AcS w w' sb ao len cap) := hide (fun W h => (HN.out 2 W (by omega) (by omega) h.src).mono (by rintro e w' ⟨r, e1, h0, h1, hs, hg⟩; exact ⟨r, e1, h0, h1, h.drawn hsb hs hg⟩))
  have HG3 : Hid (∀ (W : World), AcS w W sb ao len cap → Calls Try.prog 14 #[.pointer (some ⟨sb, 0, none⟩), .int .i64 3] W fun e w' => ∃ r : Int, e = .returned (.int .i64 r) ∧ 0 ≤ r ∧ r < 3 ∧ AcS w w' sb ao len cap) := hide (fun W h => (HN.out 3 W (by omega) (by omega) h.src).mono (by rintro e w' ⟨r, e1, h0, h1, hs, hg⟩; exact ⟨r, e1, h0, h1, h.drawn hsb hs hg⟩))
  have HPA : Hid (∀ (W : World), AcS w W sb ao len cap → Calls Try.prog 31 #[.pointer (some ⟨sb, 0, none⟩), .slice (some ⟨W.heap.size, 0, none⟩) 2 2] (W.alloc lAO) fun e w' => ∃ x : ByteArray, e = .returned (.string x) ∧ x.size ≤ 20 ∧ AcS w w' sb ao len cap) := hide (fun W h => (pick_any sb ao len cap lAT _ (W.alloc lAO) hl (by simp [lAT]) (by simp [lAT]) (lA_at W) (by have := h.src.lt; simp [vblocks, cellBlocks]; omega) (h.below (malloc1 _ _)).src).mono (by rintro e w' ⟨x, hx, e1, hs, hg⟩; exact ⟨x, e1, lA_small hx, (h.below (malloc1 _ _)).drawn hsb hs hg⟩))
  have HPG : Hid (∀ (W : World), AcS w W sb ao len cap → Calls Try.prog 31 #[.pointer (some ⟨sb, 0, none⟩), .slice (some ⟨W.heap.size, 0, none⟩) 2 2] (W.alloc lGO) fun e w' => ∃ x : ByteArray, e = .returned (.string x) ∧ x.size ≤ 20 ∧ AcS w w' sb ao len cap) := hide (fun W h => (pick_any sb ao len cap lGT _ (W.alloc lGO) hl (by simp [lGT]) (by simp [lGT]) (lG_at W) (by have := h.src.lt; simp [vblocks, cellBlocks]; omega) (h.below (malloc1 _ _)).src).mono (by rintro e w' ⟨x, hx, e1, hs, hg⟩; exact ⟨x, e1, lG_small hx, (h.below (malloc1 _ _)).drawn hsb hs hg⟩))
  clear hd
  by_cases hL0 : L.length = 0
  · obtain rfl : L = [] := List.length_eq_zero_iff.1 hL0
    clear hL0
    go_enter Try.func15, Try.ntmps15
    go_wp2_with (first
      | (go_at_call 32; refine (HAO.out _ _ (HV.out _ (HB2.out _ _))).mono ?_; rintro e w1 ⟨v1, rfl, ho, hb⟩; obtain ⟨p1, c1, rfl⟩ := owns_shape ho; have HC1 : Hid (AcS w w1 sb ao len cap) := hide (AcS.below ⟨HS.out _ _, (below_apart (HB2.out _ _)).sub (by simp), HX.out _⟩ hb); clear ho hb)
      | (go_at_call 14; (fail_if_success (have := HC2)); refine (HG.out _ HC1.out).mono ?_; rintro e w2 ⟨r2, rfl, h20, h21, hc⟩; have HC2 := hide hc; clear hc)
      | (go_at_call 31; have MK2 := HC2; (fail_if_success (have := HC3)); refine (HPA.out _ HC2.out).mono ?_; rintro e w3 ⟨x3, rfl, hx3, hc⟩; have HC3 := hide hc; have HX3 := hide hx3; clear hc hx3)
      | (go_at_call 31; have MK3 := HC3; (fail_if_success (have := HC4)); refine (HPG.out _ HC3.out).mono ?_; rintro e w4 ⟨x4, rfl, hx4, hc⟩; have HC4 := hide hc; have HX4 := hide hx4; clear hc hx4)
      | (go_at_call 14; have MK4 := HC4; refine (HG3.out _ HC4.out).mono ?_; rintro e w5 ⟨r5, rfl, h50, h51, hc⟩; have HC5 := hide hc; have c0 := hc.rx.cell 0 _ rfl; have c1 := hc.rx.cell 1 _ rfl; have c2 := hc.rx.cell 2 _ rfl; have c3 := hc.rx.cell 3 _ rfl; have cz := hc.rx.fz; clear hc))
    have hD := HC5.out.done hsb ⟨1 + r2, x3, x4, r5⟩ ⟨Nat.le_trans HX3.out (by omega), Nat.le_trans HX4.out (by omega)⟩ (drawn_rng (by omega) (by omega) (by omega) (by omega)) (.int .i64 (1 + r2)) (.string x3) (.string x4) (.int .i64 r5)
    exact bodyPost_ret (v := (RAct.mk (1 + r2) x3 x4 r5).val) (ac_res (a := ⟨1 + r2, x3, x4, r5⟩) hD.2 rfl) rfl hD.1
  · go_enter Try.func15, Try.ntmps15
    go_wp2_with (first
      | (go_at_call 32; refine (HAO.out _ _ (HV.out _ (HB2.out _ _))).mono ?_; rintro e w1 ⟨v1, rfl, ho, hb⟩; have HC1 : Hid (AcS w w1 sb ao len cap) := hide (AcS.below ⟨HS.out _ _, (below_apart (HB2.out _ _)).sub (by simp), HX.out _⟩ hb); have HR1 : Hid (RActOwn w1 w.heap.size v1 L) := hide (owns_down ho (HB2.out _ _).size); obtain ⟨p1, q1, rfl⟩ := owns_shape ho; clear ho hb)
      | (go_at_call 17; (fail_if_success (have := HC2)); refine (n_one sb ao len cap 5 _ (by omega) (by omega) hl HC1.out.src).mono ?_; rintro e w2 ⟨b2, rfl, hs, hg⟩; have HC2 := hide (HC1.out.drawn hsb hs hg); have HR2 : Hid (RActOwn w2 w.heap.size (.slice p1 L.length q1) L) := hide (owns_keep HR1.out (Apart.grown hg) (fun b hb hm => by simp at hm; have := (owns_fresh HR1.out).lo b hb; omega)); clear hs hg; cases b2)
      | fail)
    · obtain ⟨g, rfl, hlc⟩ := owns_at HR2.out (by omega)
      go_wp2_with (first
        | (go_at_call 14; (fail_if_success (have := HC3)); refine (HN.out (L.length : Int) _ (by omega) (by omega) HC2.out.src).mono ?_; rintro e w3 ⟨r3, rfl, h30, h31, hs, hg⟩; have HC3 := hide (HC2.out.drawn hsb hs hg); have HR3 : Hid (RActOwn w3 w.heap.size (.slice (some ⟨g, 0, none⟩) L.length q1) L) := hide (owns_keep HR2.out (Apart.grown hg) (fun b hb hm => by simp at hm; have := (owns_fresh HR2.out).lo b hb; omega)); obtain ⟨k, rfl⟩ : ∃ k : Nat, r3 = (k : Int) := ⟨r3.toNat, by omega⟩; have hk : k < L.length := (by omega); obtain ⟨d0, d1, d2, d3⟩ := act_cells HR3.out k hk; clear hs hg h30)
        | (go_at_call 17; have MK3 := HC3; refine (n_one sb ao len cap 8 _ (by omega) (by omega) hl (HC3.out.below (malloc1 _ _)).src).mono ?_; rintro e w4 ⟨b4, rfl, hs, hg⟩; have HC4 := hide ((HC3.out.below (malloc1 w3 (.cells #[.int .i64 L[k].kind, .string L[k].peer, .string L[k].label, .int .i64 L[k].sort] 34))).drawn hsb hs hg); have HV4 : Hid (BoxL w4 w3.heap.size [.int .i64 L[k].kind, .string L[k].peer, .string L[k].label, .int .i64 L[k].sort]) := hide ((BoxL.new w3 [.int .i64 L[k].kind, .string L[k].peer, .string L[k].label, .int .i64 L[k].sort] 34).keep (Apart.grown hg) (by have := HC3.out.ap.size; simp; omega)); have a0 := HV4.out.cell 0 _ rfl; have a1 := HV4.out.cell 1 _ rfl; have a2 := HV4.out.cell 2 _ rfl; have a3 := HV4.out.cell 3 _ rfl; have az := HV4.out.fz; have c0 := HC4.out.rx.cell 0 _ rfl; have c1 := HC4.out.rx.cell 1 _ rfl; have c2 := HC4.out.rx.cell 2 _ rfl; have c3 := HC4.out.rx.cell 3 _ rfl; have cz := HC4.out.rx.fz; clear hs hg; cases b4))
      · have hD := HC4.out.done hsb L[k] (HOK.out _ (List.getElem_mem hk)).1 (HOK.out _ (List.getElem_mem hk)).2 (.int .i64 L[k].kind) (.string L[k].peer) (.string L[k].label) (.int .i64 L[k].sort)
        exact bodyPost_ret (v := (L[k]).val) (ac_res (a := L[k]) hD.2 rfl) rfl hD.1
      · have hz3 : w.heap.size + 1 < w3.heap.size := HC3.out.rx.lt
        go_wp2_with (go_at_call 14; refine (HN.out 3 _ (by omega) (by omega) HC4.out.src).mono ?_; rintro e w5 ⟨r5, rfl, h50, h51, hs, hg⟩; have HC6 := hide (HC4.out.drawn hsb hs hg); have HC5 := hide (HC6.out.put (o := 3) hsb hz3 (.int .i64 r5)); have HV5 := hide (HV4.out.keep (Apart.grown hg) (by simp; omega)); have e0 := HV5.out.cell 0 _ rfl; have e1 := HV5.out.cell 1 _ rfl; have e2 := HV5.out.cell 2 _ rfl; have e3 := HV5.out.cell 3 _ rfl; have ez := HV5.out.fz; have g0 := HC6.out.rx.cell 0 _ rfl; have g1 := HC6.out.rx.cell 1 _ rfl; have g2 := HC6.out.rx.cell 2 _ rfl; have g3 := HC6.out.rx.cell 3 _ rfl; have gz := HC6.out.rx.fz; have k0 := HC5.out.rx.cell 0 _ rfl; have k1 := HC5.out.rx.cell 1 _ rfl; have k2 := HC5.out.rx.cell 2 _ rfl; have k3 := HC5.out.rx.cell 3 _ rfl; have kz := HC5.out.rx.fz; clear hs hg c0 c1 c2 c3 cz a0 a1 a2 a3 az)
        have hD := HC5.out.done hsb ⟨L[k].kind, L[k].peer, L[k].label, r5⟩ (HOK.out _ (List.getElem_mem hk)).1 ⟨(HOK.out _ (List.getElem_mem hk)).2.1, show i64B r5 from ⟨by omega, by omega⟩⟩ (.int .i64 L[k].kind) (.string L[k].peer) (.string L[k].label) (.int .i64 r5)
        exact bodyPost_ret (v := (RAct.mk L[k].kind L[k].peer L[k].label r5).val) (ac_res (a := ⟨L[k].kind, L[k].peer, L[k].label, r5⟩) hD.2 rfl) rfl hD.1
    · go_wp2_with (first
        | (go_at_call 14; (fail_if_success (have := HC3)); refine (HG.out _ HC2.out).mono ?_; rintro e w3 ⟨r2, rfl, h20, h21, hc⟩; have HC3 := hide hc; clear hc)
        | (go_at_call 31; have MK2 := HC3; (fail_if_success (have := HC4)); refine (HPA.out _ HC3.out).mono ?_; rintro e w4 ⟨x3, rfl, hx3, hc⟩; have HC4 := hide hc; have HX3 := hide hx3; clear hc hx3)
        | (go_at_call 31; have MK3 := HC4; (fail_if_success (have := HC5)); refine (HPG.out _ HC4.out).mono ?_; rintro e w5 ⟨x4, rfl, hx4, hc⟩; have HC5 := hide hc; have HX4 := hide hx4; clear hc hx4)
        | (go_at_call 14; have MK4 := HC5; refine (HG3.out _ HC5.out).mono ?_; rintro e w6 ⟨r5, rfl, h50, h51, hc⟩; have HC6 := hide hc; have c0 := hc.rx.cell 0 _ rfl; have c1 := hc.rx.cell 1 _ rfl; have c2 := hc.rx.cell 2 _ rfl; have c3 := hc.rx.cell 3 _ rfl; have cz := hc.rx.fz; clear hc))
      have hD := HC6.out.done hsb ⟨1 + r2, x3, x4, r5⟩ ⟨Nat.le_trans HX3.out (by omega), Nat.le_trans HX4.out (by omega)⟩ (drawn_rng (by omega) (by omega) (by omega) (by omega)) (.int .i64 (1 + r2)) (.string x3) (.string x4) (.int .i64 r5)
      exact bodyPost_ret (v := (RAct.mk (1 + r2) x3 x4 r5).val) (ac_res (a := ⟨1 + r2, x3, x4, r5⟩) hD.2 rfl) rfl hD.1
end Go.Proofs.Ytlbcnmcfljaijaa
namespace Go.Proofs.Ytlbcnmcfljaijaa
open Go.RowKit
set_option linter.unusedSimpArgs false
set_option linter.unusedVariables false
attribute [local go_sem ↓] Go.wp_at_zero Go.wp_at_succ

structure FwAt (w1 wr : World) (sb : Nat) (ao : Option Addr) (len cap rb mb B : Nat) (sv ev : Value) (m : Mach) (lv : Value) (l : List RAct) : Prop where
  mm : MmAt w1 wr sb ao len cap sv ev m
  bx : BoxL wr mb [sv, ev, .int .i64 m.start]
  rx : BoxL wr rb [.slice none 0 0, .slice none 0 0, .int .i64 0]
  act : RActOwn wr B lv l
  ok : ∀ a ∈ l, a.fit ∧ a.rng
  bs : ∀ b ∈ vblocks sv, b < B
  be : ∀ b ∈ vblocks ev, b < B
  br : rb < w1.heap.size ∧ rb ≠ sb ∧ sb < w1.heap.size ∧ w1.heap.size ≤ mb ∧ mb < B
theorem FwAt.by {w1 wr wn : World} {sb : Nat} {ao : Option Addr} {len cap rb mb B : Nat} {sv ev : Value} {m : Mach} {lv : Value} {l : List RAct} (h : FwAt w1 wr sb ao len cap rb mb B sv ev m lv l) (hs : Src wn sb ao len cap) (hA : Apart wr wn [sb]) : FwAt w1 wn sb ao len cap rb mb B sv ev m lv l := by
  obtain ⟨h1, h2, h3, h4, h5⟩ := h.br
  have hm := h.mm
  exact ⟨⟨owns_keep hm.so hA (fun b hb hm' => by simp at hm'; have := (owns_fresh hm.so).lo b hb; omega), owns_keep hm.eo hA (fun b hb hm' => by simp at hm'; have := (owns_fresh hm.eo).lo b hb; omega), hm.sf, hm.ef, hm.sl, hm.el, hm.ds, hs, (hm.ap.trans hA).sub (by simp)⟩,
    h.bx.keep hA (by simp; omega), h.rx.keep hA (by simpa using h2), owns_keep h.act hA (fun b hb hm' => by simp at hm'; have := (owns_fresh h.act).lo b hb; omega), h.ok, h.bs, h.be, h.br⟩
theorem FwAt.below {w1 wr wn : World} {sb : Nat} {ao : Option Addr} {len cap rb mb B : Nat} {sv ev : Value} {m : Mach} {lv : Value} {l : List RAct} (h : FwAt w1 wr sb ao len cap rb mb B sv ev m lv l) (hb : Below wr.heap.size wr wn) : FwAt w1 wn sb ao len cap rb mb B sv ev m lv l :=
  ⟨h.mm.below hb, h.bx.keep (below_apart hb) (by simp), h.rx.keep (below_apart hb) (by simp), owns_below h.act hb, h.ok, h.bs, h.be, h.br⟩
theorem FwAt.push {w1 wr W wn : World} {sb : Nat} {ao : Option Addr} {len cap rb mb B : Nat} {sv ev : Value} {m : Mach} {lv lv2 : Value} {l : List RAct} (h : FwAt w1 wr sb ao len cap rb mb B sv ev m lv l) (a : RAct) (ha : a.fit ∧ a.rng) (hW : Below wr.heap.size wr W) (hown : wn.ownsRow B 34 4 lv2 (l.length + 1) (l.flatMap RAct.cells ++ a.cells)) (hg : W.grownBy wn lv.ownBlock) : FwAt w1 wn sb ao len cap rb mb B sv ev m lv2 (l ++ [a]) ∧ Apart wr wn (vblocks lv) := by
  obtain ⟨p, c, hv⟩ := owns_shape h.act
  have hA : Apart wr wn (vblocks lv) := by
    rw [hv] at hg ⊢
    have := (below_apart hW).trans (grownBy_apart hg)
    rwa [List.nil_append] at this
  have hlo := (owns_fresh h.act).lo
  obtain ⟨h1, h2, h3, h4, h5⟩ := h.br
  have hm := h.mm
  refine ⟨⟨⟨owns_keep hm.so hA (fun b hb hm' => by have := hlo b hm'; have := h.bs b hb; omega), owns_keep hm.eo hA (fun b hb hm' => by have := hlo b hm'; have := h.be b hb; omega), hm.sf, hm.ef, hm.sl, hm.el, hm.ds, hm.src.apart hA (fun b hb => by have := hlo b hb; omega), hm.ap.new hA (fun b hb => by have := hlo b hb; omega)⟩,
    h.bx.keep hA (fun hb => by have := hlo _ hb; omega), h.rx.keep hA (fun hb => by have := hlo _ hb; omega), RActOwn.snoc hown, fun x hx => ?_, h.bs, h.be, h.br⟩, hA⟩
  rcases List.mem_append.1 hx with hx | hx
  · exact h.ok x hx
  · simp at hx
    subst hx
    exact ha
theorem fw_new {w1 w2 : World} {sb : Nat} {ao : Option Addr} {len cap rb : Nat} {sv ev : Value} {m : Mach} (h : MmAt w1 w2 sb ao len cap sv ev m) (hr : BoxL w2 rb [.slice none 0 0, .slice none 0 0, .int .i64 0]) (hrb : rb < w1.heap.size) (hne : rb ≠ sb) (hsb : sb < w1.heap.size) :
    FwAt w1 ((w2.alloc (.cells #[sv, ev, .int .i64 m.start] 26)).alloc (.cells #[] 34)) sb ao len cap rb w2.heap.size (w2.heap.size + 1) sv ev m (.slice (some ⟨w2.heap.size + 1, 0, none⟩) 0 0) [] := by
  have hB : Below w2.heap.size w2 ((w2.alloc (.cells #[sv, ev, .int .i64 m.start] 26)).alloc (.cells #[] 34)) := balloc2 _ _ _
  have hz := h.ap.size
  exact ⟨h.below hB, (BoxL.new w2 [sv, ev, .int .i64 m.start] 26).keep (below_apart (malloc1 _ _)) (by simp), hr.keep (below_apart hB) (by simp), owns_empty _ _ _ _ (w2.heap.size + 1) (Nat.le_refl _) (mheap_new _ _ _ (by simp)), fun a ha => (by cases ha), fun b hb => by have := (owns_fresh h.so).hi b hb; omega, fun b hb => by have := (owns_fresh h.eo).hi b hb; omega, hrb, hne, hsb, hz, by omega⟩
def DfAns (w w' : World) (e : Ending) : Prop := ∃ (ps : Option Addr) (cs : Nat) (pe : Option Addr) (ce : Nat) (m : Mach) (lv : Value) (l : List RAct), e = .returned (.tuple #[.agg #[.slice ps m.states.length cs, .slice pe m.edges.length ce, .int .i64 m.start], lv]) ∧ m.fit ∧ m.states.length ≤ 40 ∧ m.edges.length ≤ 40 ∧ (RStateOwn w' w.heap.size (.slice ps m.states.length cs) m.states ∧ REdgeOwn w' w.heap.size (.slice pe m.edges.length ce) m.edges ∧ RActOwn w' w.heap.size lv l) ∧ (∀ a ∈ l, a.fit ∧ a.rng) ∧ l.length ≤ 61 ∧ Below w.heap.size w w'
theorem df_res {W : World} {rb : Nat} {p q : Option Addr} {a b c d : Nat} {z : Int} {lv : Value} (h : BoxL W rb [.slice p a b, .slice q c d, .int .i64 z]) {tmps : Array Value} (hp : tmps[2]? = some (.pointer (some ⟨rb, 0, none⟩))) (hq : tmps[3]? = some lv) : Sem.run Try.prog (results Try.f4 tmps) W = .ok (.tuple #[.agg #[.slice p a b, .slice q c d, .int .i64 z], lv]) W := by
  have b0 := h.cell 0 _ rfl
  have b1 := h.cell 1 _ rfl
  have b2 := h.cell 2 _ rfl
  simp [results, Try.results4, go_sem, b0, b1, b2, hp, hq]
theorem FwAt.done {w w1 wr : World} {sb : Nat} {ao : Option Addr} {len cap rb mb B : Nat} {sv ev : Value} {m : Mach} {lv : Value} {l : List RAct} (h : FwAt w1 wr sb ao len cap rb mb B sv ev m lv l) (hb : Below w.heap.size w w1) (hrb : w.heap.size ≤ rb) (hsb : w.heap.size ≤ sb) :
    ((RStateOwn (((wr.setCell ⟨rb, 0, none⟩ sv).setCell ⟨rb, 1, none⟩ ev).setCell ⟨rb, 2, none⟩ (.int .i64 m.start)) w.heap.size sv m.states ∧ REdgeOwn (((wr.setCell ⟨rb, 0, none⟩ sv).setCell ⟨rb, 1, none⟩ ev).setCell ⟨rb, 2, none⟩ (.int .i64 m.start)) w.heap.size ev m.edges ∧ RActOwn (((wr.setCell ⟨rb, 0, none⟩ sv).setCell ⟨rb, 1, none⟩ ev).setCell ⟨rb, 2, none⟩ (.int .i64 m.start)) w.heap.size lv l) ∧ Below w.heap.size w (((wr.setCell ⟨rb, 0, none⟩ sv).setCell ⟨rb, 1, none⟩ ev).setCell ⟨rb, 2, none⟩ (.int .i64 m.start))) ∧ BoxL (((wr.setCell ⟨rb, 0, none⟩ sv).setCell ⟨rb, 1, none⟩ ev).setCell ⟨rb, 2, none⟩ (.int .i64 m.start)) rb [sv, ev, .int .i64 m.start] := by
  obtain ⟨h1, h2, h3, h4, h5⟩ := h.br
  have hm := h.mm
  have hA := ((setCell_apart wr rb 0 sv).setCell 1 ev).setCell 2 (.int .i64 m.start)
  have n1 : ∀ b ∈ vblocks sv, b ∉ [rb] := fun b hb hm' => by simp at hm'; have := (owns_fresh hm.so).lo b hb; omega
  have n2 : ∀ b ∈ vblocks ev, b ∉ [rb] := fun b hb hm' => by simp at hm'; have := (owns_fresh hm.eo).lo b hb; omega
  have n3 : ∀ b ∈ vblocks lv, b ∉ [rb] := fun b hb hm' => by simp at hm'; have := (owns_fresh h.act).lo b hb; omega
  have hz := hb.size
  refine ⟨⟨⟨owns_down (owns_keep hm.so hA n1) hz, owns_down (owns_keep hm.eo hA n2) hz, owns_down (owns_keep h.act hA n3) (by omega)⟩, ?_⟩, ((h.rx.set 0 (by simp) sv).set 1 (by simp) ev).set 2 (by simp) _⟩
  have hB := hb.trans (hm.ap.below hb.size (by simp; omega))
  exact ((hB.setCell (p := ⟨rb, 0, none⟩) hrb _).setCell (p := ⟨rb, 1, none⟩) hrb _).setCell (p := ⟨rb, 2, none⟩) hrb _
theorem FwAt.zeros {w1 wr wn : World} {sb : Nat} {ao : Option Addr} {len cap rb mb B : Nat} {sv ev : Value} {m : Mach} {lv lv2 : Value} {l : List RAct} (h : FwAt w1 wr sb ao len cap rb mb B sv ev m lv l) (hW : Below wr.heap.size wr wn) (N : Nat) (hown : RActOwn wn B lv2 (List.replicate N ⟨0, ⟨#[]⟩, ⟨#[]⟩, 0⟩)) : FwAt w1 wn sb ao len cap rb mb B sv ev m lv2 (List.replicate N ⟨0, ⟨#[]⟩, ⟨#[]⟩, 0⟩) := by
  have h' := h.below hW
  exact ⟨h'.mm, h'.bx, h'.rx, hown, fun a ha => by obtain ⟨-, rfl⟩ := List.mem_replicate.1 ha; exact ⟨⟨by decide, by decide⟩, ⟨by constructor <;> decide, by constructor <;> decide⟩⟩, h.bs, h.be, h.br⟩
theorem zero_acts (N : Nat) : (madeCells (Value.agg #[.int .i64 0, .string ByteArray.empty, .string ByteArray.empty, .int .i64 0]).cells (N * 4)).toList = (List.replicate N (RAct.mk 0 ⟨#[]⟩ ⟨#[]⟩ 0)).flatMap RAct.cells := by
  unfold madeCells
  rw [Array.toList_map, Array.toList_range]
  induction N with
  | zero => rfl
  | succ N ih =>
    rw [List.replicate_succ', List.flatMap_append, ← ih, show (N + 1) * 4 = N * 4 + 1 + 1 + 1 + 1 from by omega, List.range_succ, List.range_succ, List.range_succ, List.range_succ]
    simp only [List.map_append, List.append_assoc, List.map_cons, List.map_nil, List.flatMap_cons, List.flatMap_nil, List.cons_append, List.nil_append, List.append_nil]
    rw [show (Value.agg #[Value.int .i64 0, .string ByteArray.empty, .string ByteArray.empty, .int .i64 0]).cells.size = 4 from rfl, show N * 4 % 4 = 0 from by omega, show (N * 4 + 1) % 4 = 1 from by omega, show (N * 4 + 1 + 1) % 4 = 2 from by omega, show (N * 4 + 1 + 1 + 1) % 4 = 3 from by omega]
    rfl
theorem make_acts {i0 : TypeInfo} (hi : Try.prog.info? 34 = some i0) (h1 : i0.zero = some (.agg #[.int .i64 0, .string ByteArray.empty, .string ByteArray.empty, .int .i64 0])) (h3 : i0.bytes = 48) (N : Nat) (hN : N ≤ 61) : ∃ C : Array Value, (∀ W : World, Sem.run Try.prog (Instr.makeSlice 27 (.int .i64 (N : Int)) (.int .i64 (N : Int))) W = .ok (.slice (some ⟨W.heap.size, 0, none⟩) N N) (W.alloc (.cells C 34))) ∧ ∀ (W : World) (B : Nat), B ≤ W.heap.size → RActOwn (W.alloc (.cells C 34)) B (.slice (some ⟨W.heap.size, 0, none⟩) N N) (List.replicate N (RAct.mk 0 ⟨#[]⟩ ⟨#[]⟩ 0)) := by
  refine ⟨madeCells (Value.agg #[.int .i64 0, .string ByteArray.empty, .string ByteArray.empty, .int .i64 0]).cells (N * 4), fun W => ?_, fun W B hB => ?_⟩
  · have h := run_make (P := Try.prog) W 27 34 i0 _ Try.underlying27 hi h1 .i64 .i64 (N : Int) (N : Int) (by omega) (by omega) (by rw [h3]; omega) (by omega)
    have hsz : i0.size = 4 := by
      have := Try.infoAct
      rw [hi] at this
      simp at this
      exact this.2.1
    rw [hsz] at h
    simp only [Int.toNat_natCast] at h
    exact h
  · have h := World.ownsRow_lit (e := 34) (size := 4) (base := B) W (madeCells (Value.agg #[.int .i64 0, .string ByteArray.empty, .string ByteArray.empty, .int .i64 0]).cells (N * 4)) N hB (by unfold maxLen; omega) (size_madeCells _ _)
    rw [zero_acts N] at h
    unfold RActOwn
    rw [List.length_replicate]
    exact h
set_option maxRecDepth 100000 in
set_option maxHeartbeats 4000000 in
theorem draw_follow (ao : Option Addr) (len cap : Nat) (w : World) (hl : len ≤ 1048576) (hr : ArgRow w ao len) :
    Calls Try.prog 4 #[.slice ao len cap] w fun e w' => DfAns w w' e := by
  obtain ⟨i0, hi, hz0, hz1, hz2⟩ := info_parts Try.infoAct
  have HI := hide (And.intro hi (And.intro hz0 (And.intro hz1 hz2)))
  clear hi hz0 hz1 hz2
  have HR : Hid (ArgRow (w.alloc mcO) ao len) := hide (hr.below (malloc1 w mcO))
  have HRX : Hid (BoxL (w.alloc mcO) w.heap.size [.slice none 0 0, .slice none 0 0, .int .i64 0]) := hide (BoxL.new w [.slice none 0 0, .slice none 0 0, .int .i64 0] 26)
  clear hr
  go_enter Try.func4, Try.ntmps4
  go_wp2_with (first
    | (go_at_call 12; refine (source_any ao len cap _ hl HR.out).mono ?_; rintro e w1 ⟨rfl, hs1, hb1⟩; have HS1 : Hid (Src w1 (w.heap.size + 1) ao len cap) := hide (by rw [World.size_alloc] at hs1; exact hs1); have HB1 : Hid (Below (w.heap.size + 1) (w.alloc mcO) w1) := hide (by rw [World.size_alloc] at hb1; exact hb1); have hw1 : w.heap.size + 1 < w1.heap.size := HS1.out.lt; clear hs1 hb1)
    | (go_at_call 13; refine (machine_any (w.heap.size + 1) ao len cap w1 hl HS1.out).mono ?_; rintro e w2 ⟨sv, ev, m, rfl, hm2⟩; obtain ⟨ps, cs, rfl⟩ := owns_shape hm2.so; obtain ⟨pe, ce, rfl⟩ := owns_shape hm2.eo; have HM2 := hide hm2; have HR2 : Hid (BoxL w2 w.heap.size [.slice none 0 0, .slice none 0 0, .int .i64 0]) := hide ((HRX.out.keep (below_apart (by have := HB1.out; rw [← World.size_alloc w mcO] at this; exact this)) (by simp)).keep hm2.ap (by simp)); have HW0 := hide (fw_new hm2 HR2.out (by omega) (by simp) hw1); have b0 := HW0.out.bx.cell 0 _ rfl; have b1 := HW0.out.bx.cell 1 _ rfl; have b2 := HW0.out.bx.cell 2 _ rfl; clear hm2)
    | (go_at_call 14; refine (n_pos (w.heap.size + 1) ao len cap 9 _ (by omega) (by omega) hl HW0.out.mm.src).mono ?_; rintro e w3 ⟨r3, rfl, h30, h31, hs, hg⟩; have HW3 := hide (HW0.out.by hs (Apart.grown hg)); obtain ⟨K, rfl⟩ : ∃ k : Nat, r3 = (k : Int) := ⟨r3.toNat, by omega⟩; clear hs hg h30 b0 b1 b2))
  obtain ⟨SB, hSB⟩ : ∃ x, w.heap.size + 1 = x := ⟨_, rfl⟩
  rw [hSB] at HW3 ⊢
  go_loopw [6, 7, 8] (fun lv zv kv wr => ∃ (k : Nat) (z : Int) (l : List RAct), kv = .int .i64 k ∧ zv = .int .i64 z ∧ l.length + k ≤ 8 ∧ FwAt w1 wr SB ao len cap w.heap.size w2.heap.size (w2.heap.size + 1) (.slice ps m.states.length cs) (.slice pe m.edges.length ce) m lv l) (fun _ _ kv _ => (intOf kv).toNat)
  case atStart => exact ⟨K, _, [], rfl, rfl, by simp; omega, HW3.out⟩
  case round =>
    clear HW3 HW0 HM2 HR2
    obtain ⟨k, z, l, rfl, rfl, hlk, hfw⟩ := hrel
    have HW := hide hfw
    obtain ⟨p, c, rfl⟩ := owns_shape hfw.act
    have b0 := hfw.bx.cell 0 _ rfl
    have b1 := hfw.bx.cell 1 _ rfl
    have b2 := hfw.bx.cell 2 _ rfl
    have hzr : w2.heap.size + 1 ≤ wr.heap.size := hfw.bx.lt
    clear hfw
    by_cases hk0 : 0 < k
    · obtain ⟨k, rfl⟩ : ∃ j, k = j + 1 := ⟨k - 1, by omega⟩
      go_wp2_with (first
        | (go_at_call 15; refine (act_any SB ao len cap m _ z wr hl HW.out.mm.fit HW.out.mm.at_ HW.out.mm.src).mono ?_; rintro e w4 ⟨a, rfl, haf, har, hs, hA⟩; have HA := hide (And.intro haf har); have HW4 := hide ((HW.out.by hs hA).below (malloc1 w4 (.cells #[.int .i64 a.kind, .string a.peer, .string a.label, .int .i64 a.sort] 34))); have HV4 := hide (BoxL.new w4 [.int .i64 a.kind, .string a.peer, .string a.label, .int .i64 a.sort] 34); have hz4 : w2.heap.size + 1 ≤ w4.heap.size := Nat.le_trans hzr hA.size; have HNB : Hid (w4.heap.size ∉ vblocks (.slice p l.length c)) := hide (fun hm => by have := (owns_fresh (HW.out.by hs hA).act).hi _ hm; omega); clear haf har hs hA b0 b1 b2; unfold RAct.val)
        | (at_builtin; refine wpList_append_own_at _ rfl (.tmp 27) (.tmp 29) 27 rfl (w2.heap.size + 1) 34 i0 (.agg #[.int .i64 0, .string ByteArray.empty, .string ByteArray.empty, .int .i64 0]) 4 48 Try.underlying27 HI.out.1 HI.out.2.1 HI.out.2.2.1 HI.out.2.2.2 rfl (by decide) (.slice p l.length c) l.length (l.flatMap RAct.cells) rfl (owns_below HW4.out.act (malloc1 _ _)) ⟨w4.heap.size + 1, 0, none⟩ 1 1 a.cells rfl rfl (fun j u hj => new_row2 _ _ _ _ j u hj) (RAct.cells_one a) (by unfold maxLen; omega) (by omega) (by simp; omega) ?_; intro v5 w5 hown5 hgr5 _ hat5; have HP := hide (HW4.out.push a HA.out (malloc1 _ _) hown5 hgr5); have HV5 := hide (HV4.out.keep HP.out.2 HNB.out); obtain ⟨p5, c5, rfl⟩ := owns_shape hown5; have b0 := HP.out.1.bx.cell 0 _ rfl; have b1 := HP.out.1.bx.cell 1 _ rfl; have b2 := HP.out.1.bx.cell 2 _ rfl; have d0 := HV5.out.cell 0 _ rfl; have d1 := HV5.out.cell 1 _ rfl; have d2 := HV5.out.cell 2 _ rfl; have d3 := HV5.out.cell 3 _ rfl; clear hown5 hgr5 hat5)
        | (go_at_call 16; refine (s_stepOf m z a _ w5 HP.out.1.mm.fit HP.out.1.mm.at_).mono ?_; rintro e w6 ⟨rfl, hb6⟩; have HP6 := hide (HP.out.1.below hb6); clear hb6))
      go_roundw
      case rel => exact ⟨k, _, l ++ [a], by go_num, rfl, by rw [List.length_append, List.length_singleton]; omega, HP6.out⟩
      case measure => simp [intOf]
    · obtain rfl : k = 0 := by omega
      have r0 := HW.out.rx.cell 0 _ rfl
      have r1 := HW.out.rx.cell 1 _ rfl
      have r2 := HW.out.rx.cell 2 _ rfl
      have rz := HW.out.rx.fz
      have HBW : Hid (Below w.heap.size w w1) := hide ((malloc1 w mcO).trans (HB1.out.mono (by omega)))
      go_wp2_with (first
        | (go_at_call 17; refine (n_one SB ao len cap 25 _ (by omega) (by omega) hl HW.out.mm.src).mono ?_; rintro e w4 ⟨b4, rfl, hs, hg⟩; have HW4 := hide (HW.out.by hs (Apart.grown hg)); have b0 := HW4.out.bx.cell 0 _ rfl; have b1 := HW4.out.bx.cell 1 _ rfl; have b2 := HW4.out.bx.cell 2 _ rfl; have r0 := HW4.out.rx.cell 0 _ rfl; have r1 := HW4.out.rx.cell 1 _ rfl; have r2 := HW4.out.rx.cell 2 _ rfl; have rz := HW4.out.rx.fz; clear hs hg; cases b4))
      · have hD := HW4.out.done HBW.out (Nat.le_refl _) (by omega)
        exact bodyPost_ret (v := .tuple #[.agg #[.slice ps m.states.length cs, .slice pe m.edges.length ce, .int .i64 m.start], .slice p l.length c]) (df_res hD.2 rfl rfl) rfl ⟨_, _, _, _, m, _, l, rfl, HW4.out.mm.fit, HW4.out.mm.sl, HW4.out.mm.el, hD.1.1, HW4.out.ok, by omega, hD.1.2⟩
      · obtain ⟨C60, m60, o60⟩ := make_acts HI.out.1 HI.out.2.1 HI.out.2.2.2 60 (by omega)
        obtain ⟨C61, m61, o61⟩ := make_acts HI.out.1 HI.out.2.1 HI.out.2.2.2 61 (by omega)
        replace m60 : ∀ W : World, Sem.run Try.prog (Instr.makeSlice 27 (.int .i64 60) (.int .i64 60)) W = _ := m60
        replace m61 : ∀ W : World, Sem.run Try.prog (Instr.makeSlice 27 (.int .i64 61) (.int .i64 61)) W = _ := m61
        have HO60 := hide o60
        have HO61 := hide o61
        clear o60 o61
        go_wp2_with (go_at_call 14; refine (n_pos SB ao len cap 2 _ (by omega) (by omega) hl HW4.out.mm.src).mono ?_; rintro e w5 ⟨r5, rfl, h50, h51, hs, hg⟩; have HW5 := hide (HW4.out.by hs (Apart.grown hg)); have hz5 : w2.heap.size + 1 ≤ w5.heap.size := HW5.out.bx.lt; clear hs hg b0 b1 b2 r0 r1 r2 rz; have b0 := fun A => (HW5.out.below (malloc1 w5 A)).bx.cell 0 _ rfl; have b1 := fun A => (HW5.out.below (malloc1 w5 A)).bx.cell 1 _ rfl; have b2 := fun A => (HW5.out.below (malloc1 w5 A)).bx.cell 2 _ rfl; have r0 := fun A => (HW5.out.below (malloc1 w5 A)).rx.cell 0 _ rfl; have r1 := fun A => (HW5.out.below (malloc1 w5 A)).rx.cell 1 _ rfl; have r2 := fun A => (HW5.out.below (malloc1 w5 A)).rx.cell 2 _ rfl; have rz := fun A => (HW5.out.below (malloc1 w5 A)).rx.fz; obtain rfl | rfl : r5 = 0 ∨ r5 = 1 := by omega)
        · have HW6 := hide (HW5.out.zeros (malloc1 w5 (.cells C60 34)) 60 (HO60.out w5 _ hz5))
          have hD := HW6.out.done HBW.out (Nat.le_refl _) (by omega)
          exact bodyPost_ret (v := .tuple #[.agg #[.slice ps m.states.length cs, .slice pe m.edges.length ce, .int .i64 m.start], .slice (some ⟨w5.heap.size, 0, none⟩) 60 60]) (df_res hD.2 rfl rfl) rfl ⟨_, _, _, _, m, _, _, rfl, HW6.out.mm.fit, HW6.out.mm.sl, HW6.out.mm.el, hD.1.1, HW6.out.ok, by rw [List.length_replicate]; omega, hD.1.2⟩
        · have HW6 := hide (HW5.out.zeros (malloc1 w5 (.cells C61 34)) 61 (HO61.out w5 _ hz5))
          have hD := HW6.out.done HBW.out (Nat.le_refl _) (by omega)
          exact bodyPost_ret (v := .tuple #[.agg #[.slice ps m.states.length cs, .slice pe m.edges.length ce, .int .i64 m.start], .slice (some ⟨w5.heap.size, 0, none⟩) 61 61]) (df_res hD.2 rfl rfl) rfl ⟨_, _, _, _, m, _, _, rfl, HW6.out.mm.fit, HW6.out.mm.sl, HW6.out.mm.el, hD.1.1, HW6.out.ok, by rw [List.length_replicate]; omega, hD.1.2⟩
end Go.Proofs.Ytlbcnmcfljaijaa
namespace Go.Proofs.Ytlbcnmcfljaijaa
open Go.RowKit
set_option linter.unusedSimpArgs false
set_option linter.unusedVariables false
attribute [local go_sem ↓] Go.wp_at_zero Go.wp_at_succ

theorem dw_res {W : World} {rb : Nat} {p q : Option Addr} {a b c d : Nat} {z : Int} {lv : Value} (h : BoxL W rb [.slice p a b, .slice q c d, .int .i64 z]) {tmps : Array Value} (hp : tmps[2]? = some (.pointer (some ⟨rb, 0, none⟩))) (hq : tmps[3]? = some lv) : Sem.run Try.prog (results Try.f6 tmps) W = .ok (.tuple #[.agg #[.slice p a b, .slice q c d, .int .i64 z], lv]) W := by
  have b0 := h.cell 0 _ rfl
  have b1 := h.cell 1 _ rfl
  have b2 := h.cell 2 _ rfl
  simp [results, Try.results6, go_sem, b0, b1, b2, hp, hq]
set_option maxRecDepth 100000 in
set_option maxHeartbeats 1000000 in
theorem draw_watch (ao : Option Addr) (len cap : Nat) (w : World) (hl : len ≤ 1048576) (hr : ArgRow w ao len) :
    Calls Try.prog 6 #[.slice ao len cap] w fun e w' => DfAns w w' e := by
  have HR : Hid (ArgRow (w.alloc mcO) ao len) := hide (hr.below (malloc1 w mcO))
  have HRX : Hid (BoxL (w.alloc mcO) w.heap.size [.slice none 0 0, .slice none 0 0, .int .i64 0]) := hide (BoxL.new w [.slice none 0 0, .slice none 0 0, .int .i64 0] 26)
  clear hr
  go_enter Try.func6, Try.ntmps6
  go_wp2_with (go_at_call 4; refine (draw_follow ao len cap _ hl HR.out).mono ?_; rintro e w1 ⟨ps, cs, pe, ce, m, lv, l, rfl, hf, hs40, he40, ⟨o1, o2, o3⟩, hok, hl61, hb⟩; obtain ⟨pl, cl, rfl⟩ := owns_shape o3; have HF := hide hf; have HO := hide (And.intro o1 (And.intro o2 o3)); have HOK := hide hok; have HB := hide hb; have HX := hide (HRX.out.keep (below_apart hb) (by simp)); have r0 := HX.out.cell 0 _ rfl; have r1 := HX.out.cell 1 _ rfl; have r2 := HX.out.cell 2 _ rfl; have rz := HX.out.fz; clear hf o1 o2 o3 hok hb)
  have hD : BoxL (((w1.setCell ⟨w.heap.size, 0, none⟩ (.slice ps m.states.length cs)).setCell ⟨w.heap.size, 1, none⟩ (.slice pe m.edges.length ce)).setCell ⟨w.heap.size, 2, none⟩ (.int .i64 m.start)) w.heap.size [.slice ps m.states.length cs, .slice pe m.edges.length ce, .int .i64 m.start] := ((HX.out.set 0 (by simp) _).set 1 (by simp) _).set 2 (by simp) _
  have hA := ((setCell_apart w1 w.heap.size 0 (.slice ps m.states.length cs)).setCell 1 (.slice pe m.edges.length ce)).setCell 2 (.int .i64 m.start)
  have hB : Below w.heap.size w w1 := (malloc1 w mcO).trans (HB.out.mono (by simp))
  have off : ∀ {u : Value} {e size n : Nat} {xs : List Value}, w1.ownsRow (w.alloc mcO).heap.size e size u n xs → ∀ b ∈ vblocks u, b ∉ [w.heap.size] := fun h b hb hm => by
    simp at hm
    have := (owns_fresh h).lo b hb
    simp at this
    omega
  refine bodyPost_ret (v := .tuple #[.agg #[.slice ps m.states.length cs, .slice pe m.edges.length ce, .int .i64 m.start], .slice pl l.length cl]) (dw_res hD rfl rfl) rfl ⟨_, _, _, _, m, _, l, rfl, HF.out, hs40, he40, ⟨owns_down (owns_keep HO.out.1 hA (off HO.out.1)) (by simp), owns_down (owns_keep HO.out.2.1 hA (off HO.out.2.1)) (by simp), owns_down (owns_keep HO.out.2.2 hA (off HO.out.2.2)) (by simp)⟩, HOK.out, hl61, ?_⟩
  exact ((hB.setCell (p := ⟨w.heap.size, 0, none⟩) (Nat.le_refl _) _).setCell (p := ⟨w.heap.size, 1, none⟩) (Nat.le_refl _) _).setCell (p := ⟨w.heap.size, 2, none⟩) (Nat.le_refl _) _
end Go.Proofs.Ytlbcnmcfljaijaa
