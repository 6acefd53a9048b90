/- A net read from bytes: what is read, by both sides: pure. -/
import Derived.Test.YtonafcifolddjaaGreatDoorQB32
import Derived.Test.YtonafcifolddjaaGreatDoorQB34
import Derived.Test.YtonafcifolddjaaGreatDoorQB20
namespace Go.Proofs.YtonafcifolddjaaGreatDoor
open Go.RowKit

def noRMsg : RMsg := ⟨ByteArray.empty, ByteArray.empty, ByteArray.empty, 0⟩
theorem text_back2 {u s : ByteArray} {pre post : List UInt8} (h : u.size ≤ 8000) (hs : bL s = pre ++ (bL (textS u) ++ post)) (hz : s.size ≤ 8000) : getT s (pre.length : Int) = (u, (pre.length : Int) + ((bL (textS u)).length : Int), 0) := by
  unfold bL at hs ⊢
  rw [text_data h] at hs ⊢
  rw [List.append_assoc] at hs
  have hn := num_back (n := (u.size : Int)) (by omega) (by omega) hs hz
  have hsz : s.size = pre.length + (putL (foldN (u.size : Int))).length + u.size + post.length := by
    rw [Lib.size_eq, hs, List.length_append, List.length_append, List.length_append, ← Lib.size_eq]; omega
  rw [getT, hn]
  simp only
  rw [if_neg (by simp), if_neg (by omega), if_neg (by omega)]
  refine Prod.ext ?_ (Prod.ext ?_ rfl)
  · apply ba_ext
    rw [Lib.extract_data, hs]
    rw [show ((pre.length : Int) + ((putL (foldN (u.size : Int))).length : Int)).toNat = pre.length + (putL (foldN (u.size : Int))).length from by omega, Int.toNat_natCast, ← List.append_assoc, List.drop_left' (by simp), Nat.add_sub_cancel_left, List.take_left' (by rw [← Lib.size_eq])]
  · simp only [List.length_append]
    rw [← Lib.size_eq]; omega
theorem wordI_ok {t : ByteArray} {a c : Int} (h : (wordI t a c).2.2 = 0) : c = 0 ∧ gT t a = some ((wordI t a c).1, (wordI t a c).2.1) := by
  unfold wordI at h ⊢
  by_cases hc : c = 0
  · rw [if_pos hc] at h ⊢
    exact ⟨hc, by unfold gT; rw [if_pos h]⟩
  · rw [if_neg hc] at h; exact absurd h hc
theorem numI_ok {t : ByteArray} {a c : Int} (h : (numI t a c).2.2 = 0) : c = 0 ∧ gN t a = some ((numI t a c).1, (numI t a c).2.1) := by
  unfold numI at h ⊢
  by_cases hc : c = 0
  · rw [if_pos hc] at h ⊢
    exact ⟨hc, by unfold gN; rw [if_pos h]⟩
  · rw [if_neg hc] at h; exact absurd h hc
def rd4 (t : ByteArray) : RMsg × Int × Int :=
  (⟨(wordI t 0 0).1, (wordI t (wordI t 0 0).2.1 (wordI t 0 0).2.2).1,
    (wordI t (wordI t (wordI t 0 0).2.1 (wordI t 0 0).2.2).2.1 (wordI t (wordI t 0 0).2.1 (wordI t 0 0).2.2).2.2).1,
    (numI t (wordI t (wordI t (wordI t 0 0).2.1 (wordI t 0 0).2.2).2.1 (wordI t (wordI t 0 0).2.1 (wordI t 0 0).2.2).2.2).2.1 (wordI t (wordI t (wordI t 0 0).2.1 (wordI t 0 0).2.2).2.1 (wordI t (wordI t 0 0).2.1 (wordI t 0 0).2.2).2.2).2.2).1⟩,
    (numI t (wordI t (wordI t (wordI t 0 0).2.1 (wordI t 0 0).2.2).2.1 (wordI t (wordI t 0 0).2.1 (wordI t 0 0).2.2).2.2).2.1 (wordI t (wordI t (wordI t 0 0).2.1 (wordI t 0 0).2.2).2.1 (wordI t (wordI t 0 0).2.1 (wordI t 0 0).2.2).2.2).2.2).2)
theorem rd4_of {t : ByteArray} {f o l : ByteArray × Int × Int} {n : Int × Int × Int} (hf : wordI t 0 0 = f) (ho : wordI t f.2.1 f.2.2 = o) (hl : wordI t o.2.1 o.2.2 = l) (hn : numI t l.2.1 l.2.2 = n) : rd4 t = (⟨f.1, o.1, l.1, n.1⟩, n.2) := by
  subst hf; subst ho; subst hl; subst hn; rfl
theorem msgP_bL (m : RMsg) : bL (msgP m) = bL (textS m.frm) ++ (bL (textS m.to) ++ (bL (textS m.label) ++ bL (putS m.sort))) := by
  rw [msgP, bL_join]; simp [List.flatMap_cons]
theorem rd4_goes {t : ByteArray} (h : (rd4 t).2.2 = 0) : Goes t 0 (rd4 t).2.1 (bL (msgP (rd4 t).1)) := by
  obtain ⟨f, hf⟩ : ∃ f, wordI t 0 0 = f := ⟨_, rfl⟩
  obtain ⟨o, ho⟩ : ∃ o, wordI t f.2.1 f.2.2 = o := ⟨_, rfl⟩
  obtain ⟨l, hl⟩ : ∃ l, wordI t o.2.1 o.2.2 = l := ⟨_, rfl⟩
  obtain ⟨n, hn⟩ : ∃ n, numI t l.2.1 l.2.2 = n := ⟨_, rfl⟩
  have e := rd4_of hf ho hl hn
  rw [e] at h ⊢
  simp only at h ⊢
  obtain ⟨c3, g3⟩ := numI_ok (t := t) (a := l.2.1) (c := l.2.2) (by rw [hn]; exact h)
  obtain ⟨c2, g2⟩ := wordI_ok (t := t) (a := o.2.1) (c := o.2.2) (by rw [hl]; exact c3)
  obtain ⟨c1, g1⟩ := wordI_ok (t := t) (a := f.2.1) (c := f.2.2) (by rw [ho]; exact c2)
  obtain ⟨-, g0⟩ := wordI_ok (t := t) (a := 0) (c := 0) (by rw [hf]; exact c1)
  rw [hn] at g3; rw [hl] at g2; rw [ho] at g1; rw [hf] at g0
  rw [msgP_bL]
  exact (gT_goes g0).1.trans ((gT_goes g1).1.trans ((gT_goes g2).1.trans (gN_goes g3).1))
theorem rd4_back {m : RMsg} (h1 : m.frm.size ≤ 8000) (h2 : m.to.size ≤ 8000) (h3 : m.label.size ≤ 8000) (h4 : -9223372036854775808 ≤ m.sort ∧ m.sort ≤ 9223372036854775807) (hz : (msgP m).size ≤ 8000) : rd4 (msgP m) = (m, ((msgP m).size : Int), 0) := by
  have e := msgP_bL m
  have w0 := text_back2 (pre := []) h1 (by simpa using e) hz
  have w1 := text_back2 (pre := bL (textS m.frm)) h2 e hz
  have w2 := text_back2 (pre := bL (textS m.frm) ++ bL (textS m.to)) (post := bL (putS m.sort)) h3 (by rw [e]; simp) hz
  have w3 := num_back (n := m.sort) h4.1 h4.2 (s := msgP m) (pre := bL (textS m.frm) ++ bL (textS m.to) ++ bL (textS m.label)) (post := []) (by rw [← putS_data]; show bL (msgP m) = _ ++ (bL (putS m.sort) ++ []); rw [e]; simp) hz
  simp only [List.length_append, List.length_nil] at w0 w1 w2 w3
  have hsz : ((msgP m).size : Int) = (bL (textS m.frm)).length + (bL (textS m.to)).length + (bL (textS m.label)).length + (putL (foldN m.sort)).length := by
    rw [Lib.size_eq, show (msgP m).data.toList = bL (msgP m) from rfl, e]
    simp only [List.length_append]
    rw [show bL (putS m.sort) = putL (foldN m.sort) from rfl]; omega
  rw [rd4_of (t := msgP m) (f := (m.frm, ((bL (textS m.frm)).length : Int), 0)) (o := (m.to, ((bL (textS m.frm)).length : Int) + (bL (textS m.to)).length, 0)) (l := (m.label, ((bL (textS m.frm)).length : Int) + (bL (textS m.to)).length + (bL (textS m.label)).length, 0)) (n := (m.sort, ((msgP m).size : Int), 0))
    (by rw [wordI, if_pos rfl]; simpa using w0) (by rw [wordI, if_pos rfl]; simpa using w1) (by rw [wordI, if_pos rfl]; simpa using w2) (by rw [numI, if_pos rfl, hsz]; simpa using w3)]
end Go.Proofs.YtonafcifolddjaaGreatDoor
/- A net read from bytes: both sides accept the same: pure. -/
namespace Go.Proofs.YtonafcifolddjaaGreatDoor
open Go.RowKit

def unMsg (s : ByteArray) : RMsg := if unC s = 0 ∧ (rd4 (unT s)).2.2 = 0 ∧ (rd4 (unT s)).2.1 = ((unT s).size : Int) then (rd4 (unT s)).1 else noRMsg
def smsg (s : ByteArray) : RMsg := (rd4 (unT s)).1
theorem no_msg : msgB noRMsg = false := by
  have h : nameB ByteArray.empty = false := by decide +kernel
  unfold msgB noRMsg; rw [h]; rfl
theorem un_ok {s : ByteArray} (h : unC s = 0) : s.size ≤ 8000 ∧ sealS (unT s) = s := by
  unfold unC at h
  split at h
  · cases h
  · rename_i h8
    split at h
    · cases h
    · rename_i h4
      split at h
      · rename_i he
        refine ⟨by omega, ?_⟩
        unfold unT
        rw [if_pos ⟨by omega, by omega, he⟩]
        exact bytes_inj he
      · cases h
theorem un_back {x : ByteArray} (h : x.size ≤ 7996) : unT (sealS x) = x ∧ unC (sealS x) = 0 := by
  have hz := seal_size h
  have he : (sealS x).extract 0 ((sealS x).size - 4) = x := by
    apply ba_ext
    rw [Lib.extract_data, sealS_yes h]
    have h4 : (x ++ fourS (crcOf 0 x)).size - 4 = x.data.toList.length := by
      rw [← Lib.size_eq]
      have := hz
      rw [sealS_yes h] at this
      omega
    rw [h4]
    simp [ByteArray.data_append]
  constructor
  · unfold unT; rw [he, if_pos ⟨by omega, by omega, rfl⟩]
  · unfold unC; rw [if_neg (by omega), if_neg (by omega), he, if_pos rfl]
theorem unMsg_yes {s : ByteArray} (h : msgB (unMsg s) = true) : unMsg s = smsg s ∧ s = sealS (msgP (smsg s)) := by
  unfold unMsg at h ⊢
  split at h
  · rename_i hc
    rw [if_pos hc]
    refine ⟨rfl, ?_⟩
    have hg := rd4_goes hc.2.1
    have e := hg.eq
    rw [hc.2.2, Int.toNat_natCast, Int.toNat_zero, List.take_zero, List.nil_append, List.take_of_length_le (by unfold bL; rw [← Lib.size_eq]; exact Nat.le_refl _)] at e
    have e2 : unT s = msgP (smsg s) := ba_ext e
    rw [← e2]
    exact (un_ok hc.1).2.symm
  · rw [no_msg] at h; cases h
theorem unMsg_back {m : RMsg} (h : msgB m = true) : unMsg (sealS (msgP m)) = m := by
  have h1 := msgP_size h
  obtain ⟨f, t, l, s0, s1⟩ := msg_name h
  have f' := name_short f
  have t' := name_short t
  have l' := name_short l
  obtain ⟨u1, u2⟩ := un_back (x := msgP m) (by omega)
  have hr := rd4_back (m := m) (by omega) (by omega) (by omega) (by omega) (by omega)
  unfold unMsg
  rw [u1, u2, hr, if_pos ⟨rfl, rfl, rfl⟩]
def rdW (t : ByteArray) (a c : Int) : Nat → List ByteArray × Int × Int
  | 0 => ([], a, c)
  | k + 1 => ((rdW t a c k).1 ++ [(wordI t (rdW t a c k).2.1 (rdW t a c k).2.2).1], (wordI t (rdW t a c k).2.1 (rdW t a c k).2.2).2)
theorem rdW_len (t : ByteArray) (a c : Int) : ∀ k, (rdW t a c k).1.length = k
  | 0 => rfl
  | k + 1 => by rw [rdW]; simp [rdW_len t a c k]
theorem rdW_goes {t : ByteArray} {a c : Int} (h0 : 0 ≤ a) (h1 : a ≤ (t.size : Int)) : ∀ k, (rdW t a c k).2.2 = 0 → c = 0 ∧ Goes t a (rdW t a c k).2.1 ((rdW t a c k).1.flatMap fun x => bL (textS x)) ∧ ∀ x ∈ (rdW t a c k).1, x.size ≤ 8000
  | 0, h => ⟨h, ⟨h0, h1, Int.le_refl _, by simp [rdW]⟩, by simp [rdW]⟩
  | k + 1, h => by
    rw [rdW] at h ⊢
    simp only at h ⊢
    obtain ⟨hc, g⟩ := wordI_ok h
    obtain ⟨i1, i2, i3⟩ := rdW_goes h0 h1 k hc
    have g1 := gT_goes g
    refine ⟨i1, ?_, ?_⟩
    · rw [List.flatMap_append]
      refine i2.trans ?_
      simpa using g1.1
    · intro x hx
      rw [List.mem_append] at hx
      rcases hx with hx | hx
      · exact i3 x hx
      · simp at hx; subst hx; exact g1.2
theorem rdW_back {t : ByteArray} (hz : t.size ≤ 8000) (ws : List ByteArray) (hw : ∀ x ∈ ws, x.size ≤ 8000) (pre post : List UInt8) (h : bL t = pre ++ ((ws.flatMap fun x => bL (textS x)) ++ post)) :
    ∀ k, k ≤ ws.length → rdW t (pre.length : Int) 0 k = (ws.take k, (((pre ++ (ws.take k).flatMap fun x => bL (textS x)).length : Nat) : Int), 0)
  | 0, _ => by simp [rdW]
  | k + 1, hk => by
    have ih := rdW_back hz ws hw pre post h k (by omega)
    have hk' : k < ws.length := by omega
    have e : ws.take (k + 1) = ws.take k ++ [ws[k]] := by rw [List.take_succ_eq_append_getElem hk']
    have ed : ws = ws.take k ++ (ws[k] :: ws.drop (k + 1)) := by rw [List.getElem_cons_drop, List.take_append_drop]
    have hb : bL t = (pre ++ (ws.take k).flatMap fun x => bL (textS x)) ++ (bL (textS ws[k]) ++ (((ws.drop (k + 1)).flatMap fun x => bL (textS x)) ++ post)) := by
      rw [h]
      conv => lhs; rw [ed]
      simp only [List.flatMap_append, List.flatMap_cons, List.append_assoc]
    have ht := text_back2 (hw _ (List.getElem_mem hk')) hb hz
    rw [rdW, ih]
    simp only
    rw [wordI, if_pos rfl, ht, e]
    simp only [List.flatMap_append, List.flatMap_cons, List.flatMap_nil, List.length_append, List.append_nil]
    refine Prod.ext rfl (Prod.ext ?_ rfl)
    simp only
    omega
theorem bytesN_bL (l : List RMsg) : bL (bytesN l) = bL (putS (l.length : Int)) ++ l.flatMap fun m => bL (msgW m) := by
  rw [bytesN, bL_join, partsN, List.take_length, List.flatMap_cons, List.flatMap_map]
theorem putS_long (n : Int) : 1 ≤ (bL (putS n)).length := by
  show 1 ≤ (putL (foldN n)).length
  unfold putL
  simp
def cntR (t : ByteArray) : Int × Int × Int := cntI t 0 0 36
def wsR (t : ByteArray) : List ByteArray × Int × Int := rdW t (cntR t).2.1 (cntR t).2.2 (cntR t).1.toNat
def okI (t : ByteArray) : Prop := (wsR t).2.2 = 0 ∧ (wsR t).2.1 = (t.size : Int) ∧ netB ((wsR t).1.map unMsg) = true
def okS (t : ByteArray) : Prop := (wsR t).2.2 = 0 ∧ t ≠ ByteArray.empty ∧ netS ((wsR t).1.map smsg) = t
theorem cnt_ok {t : ByteArray} (h : (cntR t).2.2 = 0) : 0 ≤ (cntR t).1 ∧ (cntR t).1 ≤ 36 ∧ gN t 0 = some ((cntR t).1, (cntR t).2.1) := by
  unfold cntR cntI at h ⊢
  split at h
  · cases h
  · rename_i hn
    rw [if_neg hn]
    exact ⟨by omega, by omega, (numI_ok h).2⟩
theorem flat_same {α β : Type} (f g : α → List β) (W : List α) (h : ∀ x ∈ W, f x = g x) : W.flatMap f = W.flatMap g := by
  induction W with
  | nil => rfl
  | cons x W ih => rw [List.flatMap_cons, List.flatMap_cons, ih fun y hy => h y (List.mem_cons_of_mem _ hy), h x List.mem_cons_self]
theorem map_same {α : Type} (f : α → α) (l : List α) (h : ∀ x ∈ l, f x = x) : l.map f = l := by
  induction l with
  | nil => rfl
  | cons x l ih => rw [List.map_cons, ih fun y hy => h y (List.mem_cons_of_mem _ hy), h x List.mem_cons_self]
theorem msgW_seal {x : ByteArray} {m : RMsg} (h : x = sealS (msgP m)) : bL (msgW m) = bL (textS x) := by rw [msgW, ← h]
theorem flat_words (W : List ByteArray) (h : ∀ x ∈ W, x = sealS (msgP (smsg x))) : ((W.map smsg).flatMap fun m => bL (msgW m)) = W.flatMap fun x => bL (textS x) := by
  rw [List.flatMap_map]
  exact flat_same (fun x => bL (msgW (smsg x))) (fun x => bL (textS x)) W fun x hx => msgW_seal (h x hx)
theorem ok_to {t : ByteArray} (h : okI t) : okS t ∧ (wsR t).1.map unMsg = (wsR t).1.map smsg := by
  obtain ⟨h1, h2, h3⟩ := h
  have hu : ∀ x ∈ (wsR t).1, unMsg x = smsg x ∧ x = sealS (msgP (smsg x)) := fun x hx => unMsg_yes (net_right h3 (unMsg x) (List.mem_map_of_mem hx)).1
  have hm : (wsR t).1.map unMsg = (wsR t).1.map smsg := List.map_congr_left fun x hx => (hu x hx).1
  have hc : (cntR t).2.2 = 0 := by
    have : ∀ k, (rdW t (cntR t).2.1 (cntR t).2.2 k).2.2 = 0 → (cntR t).2.2 = 0 := fun k => by
      induction k with
      | zero => exact id
      | succ k ih => intro hk; rw [rdW] at hk; exact ih (wordI_ok hk).1
    exact this _ h1
  obtain ⟨c0, c1, hg⟩ := cnt_ok hc
  have g0 := (gN_goes hg).1
  have hgo := rdW_goes (t := t) (Int.le_trans g0.lo g0.le) g0.hi (cntR t).1.toNat h1
  have gg := g0.trans hgo.2.1
  have e := gg.eq
  have hend : (rdW t (cntR t).2.1 (cntR t).2.2 (cntR t).1.toNat).2.1 = (t.size : Int) := h2
  rw [hend, Int.toNat_natCast, Int.toNat_zero, List.take_zero, List.nil_append, List.take_of_length_le (by unfold bL; rw [← Lib.size_eq]; exact Nat.le_refl _)] at e
  have hlen : ((wsR t).1.length : Int) = (cntR t).1 := by
    rw [wsR, rdW_len]; omega
  have hb : bytesN ((wsR t).1.map smsg) = t := by
    apply ba_ext
    show bL _ = bL t
    rw [bytesN_bL, e, List.length_map, hlen]
    exact congrArg (bL (putS (cntR t).1) ++ ·) (flat_words (wsR t).1 fun x hx => (hu x hx).2)
  have hn : netS ((wsR t).1.map smsg) = t := by
    rw [netS, ← hm, if_pos h3, hm]; exact hb
  refine ⟨⟨h1, fun he => ?_, hn⟩, hm⟩
  have := congrArg List.length e
  rw [he, List.length_append] at this
  have h5 := putS_long (cntR ByteArray.empty).1
  have h6 : (bL ByteArray.empty).length = 0 := rfl
  omega
theorem ok_from {t : ByteArray} (hz : t.size ≤ 8000) (h : okS t) : okI t := by
  obtain ⟨h1, h2, h3⟩ := h
  obtain ⟨l, hl⟩ : ∃ l, (wsR t).1.map smsg = l := ⟨_, rfl⟩
  rw [hl] at h3
  have hn : netB l = true := by
    cases hb : netB l
    · rw [netS, hb] at h3; exact absurd h3.symm h2
    · rfl
  have hb : bytesN l = t := by rw [netS, if_pos hn] at h3; exact h3
  have he := bytesN_bL l
  rw [hb] at he
  have hl36 := net_len hn
  have hc : cntR t = ((l.length : Int), ((bL (putS (l.length : Int))).length : Int), 0) := by
    have := num_back (n := (l.length : Int)) (by omega) (by omega) (s := t) (pre := []) (post := l.flatMap fun m => bL (msgW m)) (by rw [List.nil_append]; exact he) hz
    simp only [List.length_nil] at this
    unfold cntR cntI numI
    rw [if_pos rfl]
    rw [show ((0 : Nat) : Int) = 0 from rfl] at this
    rw [this]
    simp only
    rw [if_neg (by omega)]
    refine Prod.ext rfl (Prod.ext ?_ rfl)
    simp only
    rw [show bL (putS (l.length : Int)) = putL (foldN (l.length : Int)) from rfl]
    omega
  have hr := rdW_back hz (l.map fun m => sealS (msgP m)) (fun x hx => by
      obtain ⟨m, hm, rfl⟩ := List.mem_map.1 hx
      have := msgP_size (net_right hn m hm).1
      have := seal_size (s := msgP m) (by omega)
      omega) (bL (putS (l.length : Int))) [] (by rw [he, List.append_nil, List.flatMap_map]; rfl) l.length (by simp)
  have hw : wsR t = (l.map fun m => sealS (msgP m), (t.size : Int), 0) := by
    rw [wsR, hc]
    simp only
    rw [Int.toNat_natCast, hr, List.take_of_length_le (by simp)]
    refine Prod.ext rfl (Prod.ext ?_ rfl)
    simp only
    rw [List.flatMap_map, show ((fun m => bL (textS (sealS (msgP m)))) : RMsg → List UInt8) = fun m => bL (msgW m) from rfl, ← he, Lib.size_eq]
    rfl
  refine ⟨by rw [hw], by rw [hw], ?_⟩
  rw [hw]
  simp only
  rw [List.map_map]
  rw [map_same (unMsg ∘ fun m => sealS (msgP m)) l fun m hm => (Function.comp_apply (f := unMsg) (g := fun m => sealS (msgP m)) (x := m)).trans (unMsg_back (net_right hn m hm).1)]
  exact hn
theorem ok_iff {t : ByteArray} (hz : t.size ≤ 8000) : okI t ↔ okS t := ⟨fun h => (ok_to h).1, ok_from hz⟩
end Go.Proofs.YtonafcifolddjaaGreatDoor
