/- Why not: the four errors, as the program's variables hold them; errors.Is of them. -/
import Derived.Test.YtonafcifolddjaaGreatDoorRows
import Derived.Test.YtonafcifolddjaaGreatDoorQB00
import Derived.Test.YtonafcifolddjaaGreatDoorQB01
import Derived.LaidEql
import Derived.Stop.Asserts
import Derived.RowKitTokens
import Derived.Deep.RegionLaw
import Derived.Laws.AppendOwn
namespace Go.Proofs.YtonafcifolddjaaGreatDoor
open Go.RowKit Go.Extern.Stop Go.Stop Go.Extern

theorem Tryz.isTypeOf (v : Value) (w : World) : (Extern.ReflectliteType.typeOf #[.iface 136 v]).run Tryz.prog w = .ok (.iface 125 (.agg #[.pointer (some ⟨4, 136, none⟩)])) w := by kernel_rfl
def cmpExt : Array Value → Sem Value := Extern.ReflectliteType.method fun t => do Extern.Rtype.noPackHeld "Comparable" t; pure (.bool (← typeInfo t).comparable)
theorem Tryz.isComparable (w : World) : (cmpExt #[.agg #[.pointer (some ⟨4, 136, none⟩)]]).run Tryz.prog w = .ok (.bool true) w := by kernel_rfl
theorem Tryz.isMethodComparable (v : Value) (w : World) : (Go.method 271 125 v "Comparable").run Tryz.prog w = .ok (119, v) w := by kernel_rfl
theorem Tryz.isComp : (Tryz.prog.info? 136).map (·.comparable) = some true := by kernel_rfl
theorem Tryz.isSize : (Tryz.prog.info? 159).map (·.size) = some 1 := by kernel_rfl
theorem Tryz.noIsE (v : Value) (xT : TypeId) (w : World) : (Instr.typeAssert (.iface 136 v) xT 127 true).run Tryz.prog w = .ok (.tuple #[.nilIface, .bool false]) w := run_typeAssert_lacksB Tryz.underlying127 (by kernel_rfl) (by kernel_rfl) v xT w
theorem Tryz.noUnwrapE (v : Value) (xT : TypeId) (w : World) : (Instr.typeAssert (.iface 136 v) xT 130 true).run Tryz.prog w = .ok (.tuple #[.nilIface, .bool false]) w := run_typeAssert_lacksB Tryz.underlying130 (by kernel_rfl) (by kernel_rfl) v xT w
theorem Tryz.noUnwrapsE (v : Value) (xT : TypeId) (w : World) : (Instr.typeAssert (.iface 136 v) xT 132 true).run Tryz.prog w = .ok (.tuple #[.nilIface, .bool false]) w := run_typeAssert_lacksB Tryz.underlying132 (by kernel_rfl) (by kernel_rfl) v xT w

set_option maxRecDepth 100000 in
theorem is_same (a : Addr) (w : World) :
    Calls Tryz.prog 89 #[.iface 136 (.pointer (some a)), .iface 136 (.pointer (some a))] w fun e w' => e = .returned (.bool true) ∧ w' = w := by
  obtain ⟨i, hi, hcmp⟩ := Option.map_eq_some_iff.1 Tryz.isComp
  obtain ⟨j, hj, hjs⟩ := Option.map_eq_some_iff.1 Tryz.isSize
  have h8 := @run_callFunc_extern Tryz.prog 93 _ Extern.ReflectliteType.typeOf Tryz.func93 (by kernel_rfl) (by kernel_rfl) (by kernel_rfl) (by kernel_rfl)
  have h32 := @run_callFunc_extern Tryz.prog 119 _ cmpExt Tryz.func119 (by kernel_rfl) (by kernel_rfl) (by kernel_rfl) (by kernel_rfl)
  have tT := Tryz.isTypeOf
  have cT := Tryz.isComparable
  have mR := Tryz.isMethodComparable
  have heq := run_eql_iface_ptr_same (P := Tryz.prog) w a Tryz.underlying52 Tryz.underlying136 hi hcmp hj
  go_enter Tryz.func89, Tryz.ntmps89
  go_wp2
  refine wp_loop_rounds 1 ?_
  rw [rounds_succ]
  go_wp2
  go_ret
  exact ⟨rfl, rfl⟩
set_option maxRecDepth 100000 in
theorem is_other (a b : Addr) (ca cb : Array Value) (ta tb : TypeId) (w : World) (hne : a ≠ b) (ha : w.heap[a.block]? = some (.cells ca ta (0, 0))) (hb : w.heap[b.block]? = some (.cells cb tb (0, 0))) :
    Calls Tryz.prog 89 #[.iface 136 (.pointer (some a)), .iface 136 (.pointer (some b))] w fun e w' => e = .returned (.bool false) ∧ w' = w := by
  obtain ⟨i, hi, hcmp⟩ := Option.map_eq_some_iff.1 Tryz.isComp
  obtain ⟨j, hj, hjs⟩ := Option.map_eq_some_iff.1 Tryz.isSize
  have h8 := @run_callFunc_extern Tryz.prog 93 _ Extern.ReflectliteType.typeOf Tryz.func93 (by kernel_rfl) (by kernel_rfl) (by kernel_rfl) (by kernel_rfl)
  have h32 := @run_callFunc_extern Tryz.prog 119 _ cmpExt Tryz.func119 (by kernel_rfl) (by kernel_rfl) (by kernel_rfl) (by kernel_rfl)
  have tT := Tryz.isTypeOf
  have cT := Tryz.isComparable
  have mR := Tryz.isMethodComparable
  have nE := Tryz.noIsE
  have uE := Tryz.noUnwrapE
  have vE := Tryz.noUnwrapsE
  have heq := run_eql_iface_ptr_other (P := Tryz.prog) w Tryz.underlying52 Tryz.underlying136 hi hcmp hj (by rw [hjs]; decide) hne ha hb
  go_enter Tryz.func89, Tryz.ntmps89
  go_wp2
  refine wp_loop_rounds 1 ?_
  rw [rounds_succ]
  go_wp2
  go_ret
  exact ⟨rfl, rfl⟩

/-- where the four errors are: nothing, too long, not right, no room -/
structure Errs where
  aN : Addr
  aL : Addr
  aR : Addr
  aM : Addr
structure SentAt (w : World) (E : Errs) : Prop where
  gN : w.cell? ⟨0, 0, none⟩ = some (.iface 136 (.pointer (some E.aN)))
  gL : w.cell? ⟨1, 0, none⟩ = some (.iface 136 (.pointer (some E.aL)))
  gR : w.cell? ⟨2, 0, none⟩ = some (.iface 136 (.pointer (some E.aR)))
  gM : w.cell? ⟨3, 0, none⟩ = some (.iface 136 (.pointer (some E.aM)))
  bN : ∃ c t, w.heap[E.aN.block]? = some (.cells c t (0, 0))
  bL : ∃ c t, w.heap[E.aL.block]? = some (.cells c t (0, 0))
  bR : ∃ c t, w.heap[E.aR.block]? = some (.cells c t (0, 0))
  bM : ∃ c t, w.heap[E.aM.block]? = some (.cells c t (0, 0))
  nL : E.aN ≠ E.aL
  nR : E.aN ≠ E.aR
  nM : E.aN ≠ E.aM
  lR : E.aL ≠ E.aR
  lM : E.aL ≠ E.aM
  rM : E.aR ≠ E.aM
theorem SentAt.carry {w w' : World} {E : Errs} (h : SentAt w E) (hb : Below w.heap.size w w') : SentAt w' E := by
  have hc : ∀ {p : Addr} {v : Value}, w.cell? p = some v → w'.cell? p = some v := fun {p v} hv => (hb.cell (World.block_lt_of_cell? w _ hv)).trans hv
  have hk : ∀ {b : Nat}, (∃ c t, w.heap[b]? = some (.cells c t (0, 0))) → ∃ c t, w'.heap[b]? = some (.cells c t (0, 0)) := fun {b} ⟨c, t, hv⟩ => ⟨c, t, (hb.block b (Array.getElem?_eq_some_iff.1 hv).1).trans hv⟩
  exact ⟨hc h.gN, hc h.gL, hc h.gR, hc h.gM, hk h.bN, hk h.bL, hk h.bR, hk h.bM, h.nL, h.nR, h.nM, h.lR, h.lM, h.rM⟩

/-- why not -/
abbrev Why := CallKind
def Why.code : Why → Int
  | .normal => 0
  | .deferred => 6
  | .wrapped => 2
  | .report => 1
  | .early => 9
def whyV (E : Errs) : Why → Value
  | .normal => .nilIface
  | .deferred => .iface 136 (.pointer (some E.aN))
  | .wrapped => .iface 136 (.pointer (some E.aL))
  | .report => .iface 136 (.pointer (some E.aR))
  | .early => .iface 136 (.pointer (some E.aM))
end Go.Proofs.YtonafcifolddjaaGreatDoor
/- append as one step of a region that draws its order. -/
namespace Go.Proofs.YtonafcifolddjaaGreatDoor
open Go.RowKit

theorem stepM_grows {P : Program} {ops : Array Oper} {o : Oper} {a : Act} {w : World} {K : Act → World → Prop} {Q : Exit → Act → World → Prop} {E : Prop}
    (hg : o.guard = none) (s x : Operand) (t : TypeId) (hop : o.op = Op.call { callee := Callee.builtin Builtin.append, args := #[s, x], argTypes := #[t, t] })
    (e : TypeId) (i : TypeInfo) (z : Value) (size bytes : Nat) (h1 : P.underlying t = some (.slice e)) (h2 : P.info? e = some i) (h3 : i.zero = some z) (h4 : i.size = size) (h5 : i.bytes = bytes) (h6 : z.cells.size = size) (h7 : 0 < size)
    (b : Addr) (n cap : Nat) (olds : List Value) (hs : a.eval s = .slice (some b) n cap) (hlo : olds.length = n * size) (holds : ∀ j u, olds[j]? = some u → w.cell? (b.add j) = some u)
    (ad : Addr) (m c : Nat) (news : List Value) (hx : a.eval x = .slice (some ad) m c) (hn : news.length = m * size) (hc : ∀ j u, news[j]? = some u → w.cell? (ad.add j) = some u)
    (hfull : cap < n + m) (b1 : n + m ≤ maxLen) (b2 : (n + m) * bytes ≤ 140737488355328)
    (hK : ∀ v' w', w'.ownsRow w.heap.size e size v' (n + m) (olds ++ news) → w.grownBy w' none → K (a.put o.dst v') w') :
    if Region.wanted o (yielded ops a.tmps) = true then Oper.wp P o a w K Q else E := by
  have hw : Region.wanted o (yielded ops a.tmps) = true := by simp [Region.wanted, hg]
  rw [if_pos hw]
  obtain ⟨v', w', hrun, r1, r2⟩ := run_append_arg_grows (P := P) w t o.type e i z size bytes h1 h2 h3 h4 h5 h6 h7 b n cap olds hlo holds ad m c news hn hc hfull b1 b2
  unfold Oper.wp
  simp [execOp, hop, resolve, invoke, builtin, hs, hx, hrun, Result.andThen]
  exact hK v' w' r1 r2
theorem stepM_own {P : Program} {ops : Array Oper} {o : Oper} {a : Act} {w : World} {K : Act → World → Prop} {Q : Exit → Act → World → Prop} {E : Prop}
    (hg : o.guard = none) (s x : Operand) (t : TypeId) (hop : o.op = Op.call { callee := Callee.builtin Builtin.append, args := #[s, x], argTypes := #[t, t] })
    (base : Nat) (e : TypeId) (i : TypeInfo) (z : Value) (size bytes : Nat) (h1 : P.underlying t = some (.slice e)) (h2 : P.info? e = some i) (h3 : i.zero = some z) (h4 : i.size = size) (h5 : i.bytes = bytes) (h6 : z.cells.size = size) (h7 : 0 < size)
    (v : Value) (n : Nat) (xs : List Value) (hs : a.eval s = v) (hown : w.ownsRow base e size v n xs)
    (ad : Addr) (m c : Nat) (news : List Value) (hx : a.eval x = .slice (some ad) m c) (hn : news.length = m * size) (hc : ∀ j u, news[j]? = some u → w.cell? (ad.add j) = some u) (h1c : ∀ u ∈ news, u.oneCell' = true)
    (b1 : n + m ≤ maxLen) (b2 : (n + m) * bytes ≤ 140737488355328) (hbase : base ≤ w.heap.size)
    (hK : ∀ v' w', w'.ownsRow base e size v' (n + m) (xs ++ news) → w.grownBy w' v.ownBlock → K (a.put o.dst v') w') :
    if Region.wanted o (yielded ops a.tmps) = true then Oper.wp P o a w K Q else E := by
  have hw : Region.wanted o (yielded ops a.tmps) = true := by simp [Region.wanted, hg]
  rw [if_pos hw]
  obtain ⟨v', w', hrun, r1, r2, _⟩ := run_append_own (P := P) w base t o.type e i z size bytes h1 h2 h3 h4 h5 h6 h7 v n xs hown ad m c news hn hc h1c b1 b2 hbase
  unfold Oper.wp
  simp [execOp, hop, resolve, invoke, builtin, hs, hx, hrun, Result.andThen]
  exact hK v' w' r1 r2
end Go.Proofs.YtonafcifolddjaaGreatDoor
/- Numbers read from bytes: the plain part. -/
namespace Go.Proofs.YtonafcifolddjaaGreatDoor
open Go.RowKit

def bAt (s : ByteArray) (i : Nat) : Nat := if h : i < s.size then s[i].toNat else 0
theorem bAt_lt {s : ByteArray} {i : Nat} (h : i < s.size) : bAt s i = s[i].toNat := by simp [bAt, h]
theorem bAt_256 (s : ByteArray) (i : Nat) : bAt s i < 256 := by
  unfold bAt; split
  · exact UInt8.toNat_lt _
  · omega
/-- What the first k bytes from place a on add up to. -/
def uTo (s : ByteArray) (a : Nat) : Nat → Nat
  | 0 => 0
  | k + 1 => uTo s a k + bAt s (a + k) % 128 * 128 ^ k
theorem uTo_lt (s : ByteArray) (a : Nat) : ∀ k, uTo s a k < 128 ^ k
  | 0 => by simp [uTo]
  | k + 1 => by
    have ih := uTo_lt s a k
    have hm : bAt s (a + k) % 128 ≤ 127 := by omega
    have := Nat.mul_le_mul_right (128 ^ k) hm
    rw [uTo, Nat.pow_succ]
    omega
def unfoldZ (u : Nat) : Int := if u % 2 = 1 then -((u / 2 : Nat) : Int) - 1 else ((u / 2 : Nat) : Int)

def getR (s : ByteArray) (a : Nat) : Nat → Nat → Int × Int × Int
  | 0, _ => (0, 0, 3)
  | f + 1, k =>
    if s.size ≤ a + k then (0, 0, 4)
    else if k = 9 ∧ 1 < bAt s (a + k) then (0, 0, 3)
    else if bAt s (a + k) < 128 then (if bAt s (a + k) = 0 ∧ 0 < k then (0, 0, 3) else (unfoldZ (uTo s a (k + 1)), ((a + k + 1 : Nat) : Int), 0))
    else getR s a f (k + 1)
def getN (s : ByteArray) (at0 : Int) : Int × Int × Int := if 8000 < s.size then (0, 0, 2) else if at0 < 0 then (0, 0, 1) else getR s at0.toNat 10 0

theorem getR_short {s : ByteArray} {a f k : Nat} (h : s.size ≤ a + k) : getR s a (f + 1) k = (0, 0, 4) := by
  rw [getR, if_pos h]
theorem getR_big {s : ByteArray} {a f k : Nat} (h : ¬ s.size ≤ a + k) (h9 : k = 9) (hb : 1 < bAt s (a + k)) : getR s a (f + 1) k = (0, 0, 3) := by
  rw [getR, if_neg h, if_pos ⟨h9, hb⟩]
theorem getR_last {s : ByteArray} {a f k : Nat} (h : ¬ s.size ≤ a + k) (h9 : ¬ (k = 9 ∧ 1 < bAt s (a + k))) (hb : bAt s (a + k) < 128) :
    getR s a (f + 1) k = if bAt s (a + k) = 0 ∧ 0 < k then (0, 0, 3) else (unfoldZ (uTo s a (k + 1)), ((a + k + 1 : Nat) : Int), 0) := by
  rw [getR, if_neg h, if_neg h9, if_pos hb]
theorem getR_more {s : ByteArray} {a f k : Nat} (h : ¬ s.size ≤ a + k) (h9 : ¬ k = 9) (hb : ¬ bAt s (a + k) < 128) : getR s a (f + 1) k = getR s a f (k + 1) := by
  rw [getR, if_neg h, if_neg (fun x => h9 x.1), if_neg hb]

theorem pow7 (k : Nat) : (2 : Nat) ^ (7 * k) = 128 ^ k := by rw [Nat.pow_mul]

/-- A sum of digits up to the tenth, whose last is at most 1, fits in. -/
theorem uTo_u64 {s : ByteArray} {a k : Nat} (hk : k ≤ 9) (h9 : ¬ (k = 9 ∧ 1 < bAt s (a + k))) : U64b (uTo s a (k + 1)) := by
  by_cases e : k = 9
  · subst e
    have h := uTo_lt s a 9
    have hb : bAt s (a + 9) ≤ 1 := by omega
    have e9 : (128 : Nat) ^ 9 = 9223372036854775808 := by decide
    unfold U64b
    rw [uTo]
    rw [e9] at h ⊢
    omega
  · have h := uTo_lt s a (k + 1)
    have : (128 : Nat) ^ (k + 1) ≤ 128 ^ 9 := Nat.pow_le_pow_right (by omega) (by omega)
    have e9 : (128 : Nat) ^ 9 = 9223372036854775808 := by decide
    unfold U64b
    omega

/-- or of a sum below 128^k with a digit at place k: their sum. -/
theorem or_digit {U k d : Nat} (hU : U < 128 ^ k) (hu : U64b (U + d * 128 ^ k)) : bits .or .u64 (U : Int) ((d * 128 ^ k : Nat) : Int) = ((U + d * 128 ^ k : Nat) : Int) := by
  have h := hu.lt
  rw [bits_or_u64_nat U (d * 128 ^ k) (by omega) (by omega)]
  rw [← pow7] at *
  rw [Nat.or_comm, Nat.mul_comm d, ← Nat.two_pow_add_eq_or_of_lt hU d]
  congr 1
  omega
end Go.Proofs.YtonafcifolddjaaGreatDoor
