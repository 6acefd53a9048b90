/- The specification's maker of machines: a first state stored, names and first states cut back. -/
import Derived.Test.YthaomohoiginnaaQMachineOf34
import Derived.WalkSmall
import Derived.Laws.OwnMore
import Derived.Test.YthaomohoiginnaaQMachineOf16
import Derived.Deep.Slices
import Derived.ChangeArms
import Derived.ChangeSame
import Derived.WalkKit
namespace Go.Proofs.Ythaomohoiginnaa
open Go.RowKit

theorem strsV_snoc (ns : List ByteArray) (x : ByteArray) : strsV (ns ++ [x]) = strsV ns ++ [.string x] := by simp [strsV]
theorem numsV_snoc (fis : List Int) (x : Int) : numsV (fis ++ [x]) = numsV fis ++ [.int .i64 x] := by simp [numsV]
theorem numsV_len (fis : List Int) : (numsV fis).length = fis.length := by simp [numsV]
theorem strsV_len (ns : List ByteArray) : (strsV ns).length = ns.length := by simp [strsV]
theorem mk_setF {w : World} {xb B base : Nat} {v sv ev : Value} {z : Int} {nv : Value} {g cap : Nat} {all : List Nd} {sts : List RState} {eds : List REdge} {ns : List ByteArray} {fis : List Int} {y : Int} (h : MkAt w xb B base v sv ev z nv (.slice (some ⟨g, 0, none⟩) (fis.length + 1) cap) all sts eds ns (fis ++ [y])) (x : Int) :
    MkAt (w.setCell ⟨g, fis.length, none⟩ (.int .i64 x)) xb B base v sv ev z nv (.slice (some ⟨g, 0, none⟩) (fis.length + 1) cap) all sts eds ns (fis ++ [x]) ∧ Mkept w (w.setCell ⟨g, fis.length, none⟩ (.int .i64 x)) base xb := by
  have hfi := h.fi
  rw [List.length_append, List.length_singleton] at hfi
  have hl := h.low
  have lo := (owns_fresh hfi).lo g (by simp [vblocks, cellBlocks])
  have hA := setCell_apart w g fis.length (.int .i64 x)
  have hgb : g ∈ vblocks (.slice (some ⟨g, 0, none⟩) (fis.length + 1) cap) := by simp [vblocks, cellBlocks]
  have hK := hA.mkept h.sz (xb := xb) (fun b hb => by simp at hb; subst hb; exact .inr lo)
  have off : ∀ {u : Value}, (∀ b ∈ vblocks u, b ∉ vblocks (.slice (some ⟨g, 0, none⟩) (fis.length + 1) cap)) → ∀ b ∈ vblocks u, b ∉ [g] := fun hd b hb hm => by
    simp at hm
    subst hm
    exact hd b hb hgb
  refine ⟨⟨h.box.keep hA (by simp; omega), hK.sl hl.1 hl.2 h.sl, h.st.keep hA (off h.four.sf), h.ed.keep hA (off h.four.ef), owns_keep h.nm hA (off h.four.nf), ?_, h.four, hl, Nat.le_trans h.sz hA.size⟩, hK⟩
  have := (World.ownsRow.stored hfi fis.length (.int .i64 x)).1
  rw [List.length_append, List.length_singleton, numsV_snoc]
  rw [numsV_snoc, List.set_append_right _ _ (by rw [numsV_len]; exact Nat.le_refl _), numsV_len, Nat.sub_self] at this
  exact this
theorem mk_popN {w : World} {xb B base : Nat} {v sv ev : Value} {z : Int} {fv : Value} {g cap : Nat} {all : List Nd} {sts : List RState} {eds : List REdge} {ns : List ByteArray} {fis : List Int} {y : ByteArray} (h : MkAt w xb B base v sv ev z (.slice (some ⟨g, 0, none⟩) (ns.length + 1) cap) fv all sts eds (ns ++ [y]) fis) :
    MkAt (w.setCell ⟨xb, 4, none⟩ (.slice (some ⟨g, 0, none⟩) ns.length cap)) xb B base v sv ev z (.slice (some ⟨g, 0, none⟩) ns.length cap) fv all sts eds ns fis ∧ Mkept w (w.setCell ⟨xb, 4, none⟩ (.slice (some ⟨g, 0, none⟩) ns.length cap)) base xb := by
  have hnm := h.nm
  rw [List.length_append, List.length_singleton, strsV_snoc] at hnm
  have hl := h.low
  have hA := setCell_apart w xb 4 (.slice (some ⟨g, 0, none⟩) ns.length cap)
  have hK := hA.mkept h.sz (xb := xb) (fun b hb => by simp at hb; exact .inl hb)
  have off : ∀ {u : Value}, Fresh base w u → ∀ b ∈ vblocks u, b ∉ [xb] := fun hd b hb hm => by
    simp at hm
    have := hd.lo b hb
    omega
  have hp := ownsRow_pop (by rw [strsV_len, Nat.mul_one]) hnm
  exact ⟨⟨h.box.set 4 (by simp) _, hK.sl hl.1 hl.2 h.sl, h.st.keep hA (off h.st.fresh), h.ed.keep hA (off h.ed.fresh), owns_keep hp hA (off (owns_fresh hp)), owns_keep h.fi hA (off (owns_fresh h.fi)), ⟨h.four.se, h.four.sn, h.four.sf, h.four.en, h.four.ef, h.four.nf⟩, hl, Nat.le_trans h.sz hA.size⟩, hK⟩
theorem mk_popF {w : World} {xb B base : Nat} {v sv ev : Value} {z : Int} {nv : Value} {g cap : Nat} {all : List Nd} {sts : List RState} {eds : List REdge} {ns : List ByteArray} {fis : List Int} {y : Int} (h : MkAt w xb B base v sv ev z nv (.slice (some ⟨g, 0, none⟩) (fis.length + 1) cap) all sts eds ns (fis ++ [y])) :
    MkAt (w.setCell ⟨xb, 5, none⟩ (.slice (some ⟨g, 0, none⟩) fis.length cap)) xb B base v sv ev z nv (.slice (some ⟨g, 0, none⟩) fis.length cap) all sts eds ns fis ∧ Mkept w (w.setCell ⟨xb, 5, none⟩ (.slice (some ⟨g, 0, none⟩) fis.length cap)) base xb := by
  have hfi := h.fi
  rw [List.length_append, List.length_singleton, numsV_snoc] at hfi
  have hl := h.low
  have hA := setCell_apart w xb 5 (.slice (some ⟨g, 0, none⟩) fis.length cap)
  have hK := hA.mkept h.sz (xb := xb) (fun b hb => by simp at hb; exact .inl hb)
  have off : ∀ {u : Value}, Fresh base w u → ∀ b ∈ vblocks u, b ∉ [xb] := fun hd b hb hm => by
    simp at hm
    have := hd.lo b hb
    omega
  have hp := ownsRow_pop (by rw [numsV_len, Nat.mul_one]) hfi
  exact ⟨⟨h.box.set 5 (by simp) _, hK.sl hl.1 hl.2 h.sl, h.st.keep hA (off h.st.fresh), h.ed.keep hA (off h.ed.fresh), owns_keep h.nm hA (off (owns_fresh h.nm)), owns_keep hp hA (off (owns_fresh hp)), ⟨h.four.se, h.four.sn, h.four.sf, h.four.en, h.four.ef, h.four.nf⟩, hl, Nat.le_trans h.sz hA.size⟩, hK⟩
theorem MkAt.someN {w : World} {xb B base : Nat} {v sv ev : Value} {z : Int} {nv fv : Value} {all : List Nd} {sts : List RState} {eds : List REdge} {ns : List ByteArray} {fis : List Int} (h : MkAt w xb B base v sv ev z nv fv all sts eds ns fis) (hn : 0 < ns.length) : ∃ g cap, nv = .slice (some ⟨g, 0, none⟩) ns.length cap ∧ ns.length ≤ cap ∧ cap ≤ maxLen := by
  rcases h.nm.2 with ⟨_, h0⟩ | ⟨g, cap, cur, hv, _, _, hc, hm, _⟩
  · omega
  · exact ⟨g, cap, hv, hc, hm⟩
theorem MkAt.someF {w : World} {xb B base : Nat} {v sv ev : Value} {z : Int} {nv fv : Value} {all : List Nd} {sts : List RState} {eds : List REdge} {ns : List ByteArray} {fis : List Int} (h : MkAt w xb B base v sv ev z nv fv all sts eds ns fis) (hn : 0 < fis.length) : ∃ g cap, fv = .slice (some ⟨g, 0, none⟩) fis.length cap ∧ fis.length ≤ cap ∧ cap ≤ maxLen ∧ g < w.heap.size ∧ base ≤ g := by
  rcases h.fi.2 with ⟨_, h0⟩ | ⟨g, cap, cur, hv, hg, hblk, hc, hm, _⟩
  · omega
  · exact ⟨g, cap, hv, hc, hm, (Array.getElem?_eq_some_iff.1 hblk).1, hg⟩
theorem MkAt.someN1 {w : World} {xb B base : Nat} {v sv ev : Value} {z : Int} {nv fv : Value} {all : List Nd} {sts : List RState} {eds : List REdge} {ns : List ByteArray} {fis : List Int} {y : ByteArray} (h : MkAt w xb B base v sv ev z nv fv all sts eds (ns ++ [y]) fis) : ∃ g cap, nv = .slice (some ⟨g, 0, none⟩) (ns.length + 1) cap ∧ ns.length + 1 ≤ cap ∧ cap ≤ maxLen := by
  have := h.someN (by simp)
  rwa [List.length_append, List.length_singleton] at this
theorem MkAt.someF1 {w : World} {xb B base : Nat} {v sv ev : Value} {z : Int} {nv fv : Value} {all : List Nd} {sts : List RState} {eds : List REdge} {ns : List ByteArray} {fis : List Int} {y : Int} (h : MkAt w xb B base v sv ev z nv fv all sts eds ns (fis ++ [y])) : ∃ g cap, fv = .slice (some ⟨g, 0, none⟩) (fis.length + 1) cap ∧ fis.length + 1 ≤ cap ∧ cap ≤ maxLen ∧ w.cell? ⟨g, fis.length, none⟩ = some (.int .i64 y) ∧ ∀ j, w.frozen? ⟨g, j, none⟩ = false := by
  have H := h.fi
  obtain ⟨g, cap, rfl, h1, h2, h3, h4⟩ := h.someF (by simp)
  rw [List.length_append, List.length_singleton] at *
  refine ⟨g, cap, rfl, h1, h2, owns_cell H rfl _ _ ?_, fun j => (owns_fresh H).free g (by simp [vblocks, cellBlocks]) j⟩
  rw [numsV_snoc, List.getElem?_append_right (by rw [numsV_len]; exact Nat.le_refl _), numsV_len, Nat.sub_self]
  rfl
theorem mk4_N {w3 w4 : World} {xb : Nat} {sv ev fv v4 : Value} {p : Option Addr} {n c e size m : Nat} {base : Nat} {xs : List Value} (hown : w4.ownsRow base e size v4 m xs) (o : Obj) (hg : (w3.alloc o).grownBy w4 (Value.slice p n c).ownBlock) (hat : v4.ownBlock = (Value.slice p n c).ownBlock ∨ v4.ownBlock = some (w3.alloc o).heap.size) : Mk4 w3 (w4.setCell ⟨xb, 4, none⟩ v4) xb (rows4 sv ev (.slice p n c) fv) (rows4 sv ev v4 fv) := by
  obtain ⟨p4, c4, hv4⟩ := owns_shape hown
  refine Mk4.push rfl hv4 o hg hat (fun b hb => mem4.2 (.inr (.inr (.inl hb)))) (fun b hb => ?_)
  rcases mem4.1 hb with q | q | q | q
  · exact .inl (mem4.2 (.inl q))
  · exact .inl (mem4.2 (.inr (.inl q)))
  · exact .inr q
  · exact .inl (mem4.2 (.inr (.inr (.inr q))))
theorem mk4_F {w3 w4 : World} {xb : Nat} {sv ev nv v4 : Value} {p : Option Addr} {n c e size m : Nat} {base : Nat} {xs : List Value} (hown : w4.ownsRow base e size v4 m xs) (o : Obj) (hg : (w3.alloc o).grownBy w4 (Value.slice p n c).ownBlock) (hat : v4.ownBlock = (Value.slice p n c).ownBlock ∨ v4.ownBlock = some (w3.alloc o).heap.size) : Mk4 w3 (w4.setCell ⟨xb, 5, none⟩ v4) xb (rows4 sv ev nv (.slice p n c)) (rows4 sv ev nv v4) := by
  obtain ⟨p4, c4, hv4⟩ := owns_shape hown
  refine Mk4.push rfl hv4 o hg hat (fun b hb => mem4.2 (.inr (.inr (.inr hb)))) (fun b hb => ?_)
  rcases mem4.1 hb with q | q | q | q
  · exact .inl (mem4.2 (.inl q))
  · exact .inl (mem4.2 (.inr (.inl q)))
  · exact .inl (mem4.2 (.inr (.inr (.inl q))))
  · exact .inr q
theorem mk4_S {w3 w4 : World} {xb : Nat} {ev nv fv v4 : Value} {p : Option Addr} {n c e size m : Nat} {base : Nat} {xs : List Value} (hown : w4.ownsRow base e size v4 m xs) (o : Obj) (hg : (w3.alloc o).grownBy w4 (Value.slice p n c).ownBlock) (hat : v4.ownBlock = (Value.slice p n c).ownBlock ∨ v4.ownBlock = some (w3.alloc o).heap.size) : Mk4 w3 (w4.setCell ⟨xb, 1, none⟩ v4) xb (rows4 (.slice p n c) ev nv fv) (rows4 v4 ev nv fv) := by
  obtain ⟨p4, c4, hv4⟩ := owns_shape hown
  refine Mk4.push rfl hv4 o hg hat (fun b hb => mem4.2 (.inl hb)) (fun b hb => ?_)
  rcases mem4.1 hb with q | q | q | q
  · exact .inr q
  · exact .inl (mem4.2 (.inr (.inl q)))
  · exact .inl (mem4.2 (.inr (.inr (.inl q))))
  · exact .inl (mem4.2 (.inr (.inr (.inr q))))
end Go.Proofs.Ythaomohoiginnaa
/- What is wanted for arguments that are handed in. -/
namespace Go.Proofs.Ythaomohoiginnaa
open Go.RowKit Go.ChangeShapes Go.WideShapes

theorem Try.ocI : Try.prog.cellsOf 2 = 1 := by kernel_rfl
theorem Try.ocS : Try.prog.cellsOf 9 = 1 := by kernel_rfl
theorem int_range {H : Type} {enc : TypeId × Value → H} {w : World} {base : Nat} {spare : Nat → Bool} {held : Bool} {fuel : Nat} {z : Int} {x : DataW H × List MemPlace} (h : DataW.trod enc Try.prog w base spare held fuel 2 [.int .i64 z] = some x) : -9223372036854775808 ≤ z ∧ z ≤ 9223372036854775807 := by
  obtain ⟨n, e, _, hw⟩ := DataW.trod_int Try.underlying2 h
  simp at e
  subst e
  simp [Lit.wf, IntKind.min, IntKind.max, IntKind.signed, IntKind.bits] at hw
  omega
end Go.Proofs.Ythaomohoiginnaa
