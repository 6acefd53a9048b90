import Derived.Test.YtlbcnmcfljaijaaGreatQN26
import Derived.Lib.OthersKept
import Derived.Lib.DecodeN
import Derived.Lib.TrimU
import Derived.Laws.Runes
import Derived.Deep.LoopGhost
import Derived.Deep.DeepMust
import Derived.Lib.FieldsP
import Derived.Test.YtlbcnmcfljaijaaGreatQN00
import Derived.Maps.AppendAt
import Derived.WalkMore
import Derived.Deep.RegionHeld3
import Derived.Test.YtlbcnmcfljaijaaGreatQN28
namespace Go.Proofs.YtlbcnmcfljaijaaGreat
open Go.RowKit
set_option linter.unusedSimpArgs false
set_option linter.unusedVariables false
def KV(j:List ByteArray):Prop:=∃x∈j,∃c∈x.toList,128≤c.toNat
def KU(s:ByteArray)(j:List ByteArray):Prop:=(∃c∈s.toList,128≤c.toNat)∧KV j
def LJ(s:ByteArray)(j:Nat)(all:List ByteArray)(l:List UInt8):Prop:=((∀c∈s.toList.take j,c.toNat<128)∧(all,l)=(s.toList.take j).foldl JN ([],[]))∨KU s all
structure LI(all:List ByteArray)(wd:List UInt8)(pos:Nat):Prop where
 jx:all.length+(if wd.isEmpty then 0 else 1)≤pos
 len:wd.length≤pos
 mz:LG all
structure LR(w:World)(s:ByteArray)(pos:Nat)(av wv:Value)(all:List ByteArray)(wd:List UInt8)(wx:World):Prop where
 ao:J1 wx (w.heap.size+1) av all
 wo:JP wx (w.heap.size+1) wv wd
 q8:∀b∈an wv,b∉an av
 it:wx.heap[w.heap.size]?=some (.stringIter s pos)
 below:Below w.heap.size w wx
 mp:LJ s pos all wd
 lk:LI all wd pos
 le:pos≤s.size
structure Lw(w0:World)(mb:Nat)(R:Option (List Nd))(v:Value)(b:Bool)(W:World):Prop where
 sl:∃a n c,v=.slice a n c
 is:b=R.isSome
 row:∀L,R=some L→bV W (mb+2) v L∧Lz L
 low:Below w0.heap.size w0 W
def eC(j:Bool)(s:ByteArray)(ns:List Nd):Prop:=cL j ns=true∧(bH 10 ns).1=s
structure Ic(part:Bool)(s:ByteArray)(ns:List Nd)(code:Int):Prop where
 LU:8000<s.size→ns=[]∧code=2
 Lk:s.size≤8000→∀ns',eC part s ns'→ns=ns'∧code=0
 bad:s.size≤8000→(∀ns',¬eC part s ns')→ns=[]∧code=3
theorem po{w:World}{g:Nat}:∀(l:List Nd)(o:Nat),(∀j u,(l.flatMap Nd.cells)[j]?=some u→w.cell? ⟨g,o+j,none⟩=some u)→bO w g o l|[],_,_=>trivial|n::l,o,h=>by refine⟨⟨h 0 _ rfl,h 1 _ rfl,h 2 _ rfl,h 3 _ rfl,h 4 _ rfl⟩,po l (o+5) (fun j u C=>?_)⟩;have:=h (5+j) u (by rw[List.flatMap_cons,List.getElem?_append_right (by simp[Nd.cells])];simpa[Nd.cells]using C);rwa[←Nat.add_assoc]at this
theorem o8{w:World}{base:Nat}{v:Value}{l:List Nd}(h:bV w base v l)(hl:l.length≤100000):bR w w.heap.size v l:=by
 rcases h.2 with⟨rfl,I⟩|⟨g,cap,C,rfl,hB,R,J,P,U,h4⟩;·have:l=[]:=List.length_eq_zero_iff.1 I;subst this;exact⟨none,0,rfl,Nat.le_refl _,⟨by omega,by simp⟩,fun h=>absurd rfl h⟩
 ·refine⟨_,cap,rfl,J,⟨by unfold maxLen at P;omega,by omega⟩,fun _=>⟨g,0,rfl,(Array.getElem?_eq_some_iff.1 R).1,po l 0 (fun j u T=>?_)⟩⟩;rw[Nat.zero_add];exact bF h rfl j u T
def JY(j:Bool)(s:ByteArray)(w w':World)(e:Ending):Prop:=∃v ns C,e=.returned (.agg #[v,.int .i64 C])∧bV w' w.heap.size v ns∧Below w.heap.size w w'∧Ic j s ns C
def Kv:Obj:=.cells #[.slice none 0 0,.int .i64 0] 136
theorem KE{B:Nat}{a w:World}(h:Below B a w)(j l:Value):Below B a ((w.setCell ⟨B,0,none⟩ j).setCell ⟨B,1,none⟩ l):=(h.setCell (p:=⟨B,0,none⟩) (Nat.le_refl _) _).setCell (p:=⟨B,1,none⟩) (Nat.le_refl _) _
theorem LN(w:World)(B:Nat)(j l:Value):aw w ((w.setCell ⟨B,0,none⟩ j).setCell ⟨B,1,none⟩ l) [B]:=(aA w B 0 j).setCell 1 l
end Go.Proofs.YtlbcnmcfljaijaaGreat
