import Derived.Test.YtdiiiijkhpdcbaaGreatDoorRV00
import Derived.Lib.BufferWrite
import Derived.Laws.CopyOwn
namespace Go.Proofs.YtdiiiijkhpdcbaaGreatDoor
open Go.RowKit
set_option linter.unusedSimpArgs false
set_option linter.unusedVariables false
def bv(l:List UInt8):List Value:=l.map fun b=>Value.int .u8 (b.toNat:Int)
def Laid(W:World)(g T:Nat)(l:List UInt8):Prop:=∃j:Array Value,W.heap[g]?=some (.cells j 5 (0,0))/\j.size=T/\j.toList.take l.length=bv l
theorem Laid.empty{W:World}{g T:Nat}{l:List UInt8}(h:Laid W g T l)(s:ByteArray)(j:s.size=0):Laid W g T (l++s.data.toList):=by have:s.data.toList=[]:=List.eq_nil_of_length_eq_zero j;rw[this,List.append_nil];exact h
theorem Laid.conv{W:World}{g T:Nat}{l:List UInt8}(h:Laid W g T l)(hl:l.length=T):(convert 172 9 (.slice (some ⟨g,0,none⟩) T T)).run Tryz.prog W=.ok (.string ⟨l.toArray⟩) W:=by
 obtain⟨C,U,ab,ht⟩:=h;subst hl;refine run_convert_bytes_back (P:=Tryz.prog) W 172 9 5 ⟨g,0,none⟩ l.length l Tryz.underlying172 Tryz.underlying5 Tryz.underlying9 (fun j I=>?_);have J:(⟨g,0,none⟩:Addr).add j=⟨g,j,none⟩:=by unfold Addr.add;split<;>simp_all
 have R:W.cell? ⟨g,j,none⟩=C[j]?:=by simp[World.cell?,U]
 rw[J,R];have hm:C.toList[j]?=(bv l)[j]?:=by rw[<-ht,List.getElem?_take,if_pos I]
 rw[<-Array.getElem?_toList,hm];simp[bv,I]
