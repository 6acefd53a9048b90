import Derived.Test.YtdiiiijkhpdcbaaGreatDoorRV04
import Derived.DeepKeys4
import Derived.Test.YtdiiiijkhpdcbaaGreatDoorRV06
import Derived.Test.YtdiiiijkhpdcbaaGreatDoorRV08
namespace Go.Proofs.YtdiiiijkhpdcbaaGreatDoor
open Go.RowKit
set_option linter.unusedSimpArgs false
set_option linter.unusedVariables false
set_option maxHeartbeats 1000000
set_option maxRecDepth 100000
structure b9 where
 kind:Int
 peer:ByteArray
 label:ByteArray
 sort:Int
def b9.val(x:b9):Value:=.agg #[.int .i64 x.kind,.string x.peer,.string x.label,.int .i64 x.sort]
def b9.ok(x:b9):Prop:=x.peer.size<=maxLen/\x.label.size<=maxLen
def b9.fit(x:b9):Prop:=x.peer.size<=1048576/\x.label.size<=1048576
def jc(w:World)(b o:Nat)(x:b9):Prop:=w.cell? ⟨b,o,none⟩=some (.int .i64 x.kind)/\w.cell? ⟨b,o+1,none⟩=some (.string x.peer)/\w.cell? ⟨b,o+2,none⟩=some (.string x.label)/\w.cell? ⟨b,o+3,none⟩=some (.int .i64 x.sort)
def iP(w:World)(b:Nat):Nat->List b9->Prop|_,[]=>True|o,x::l=>jc w b o x/\iP w b (o+4) l
theorem jc.carry{w w':World}{b o:Nat}{x:b9}(h:jc w b o x){B:Nat}(j:b<B)(l:Below B w w'):jc w' b o x:=by obtain⟨C,I,J,P⟩:=h;exact⟨(l.cell (p:=⟨b,_,none⟩) j).trans C,(l.cell (p:=⟨b,_,none⟩) j).trans I,(l.cell (p:=⟨b,_,none⟩) j).trans J,(l.cell (p:=⟨b,_,none⟩) j).trans P⟩
theorem jc.lt{w:World}{b o:Nat}{x:b9}(h:jc w b o x):b<w.heap.size:=World.block_lt_of_cell? w _ h.1
theorem iP.carry{w w':World}{b B:Nat}(j:b<B)(C:Below B w w'):∀{l:List b9}{o:Nat},iP w b o l->iP w' b o l|[],_,_=>trivial|_::_,_,h=>⟨h.1.carry j C,iP.carry j C h.2⟩
theorem iP.get{w:World}{b:Nat}:∀{l:List b9}{o:Nat},iP w b o l->∀i(h:i<l.length),jc w b (o+i*4) l[i]|_::_,_,h,0,_=>by simpa using h.1|_::l,o,h,i+1,hi=>by have:=h.2.get i (by simpa using hi);rw[show o+4+i*4=o+(i+1)*4 from by omega]at this;simpa using this
theorem iP.of(w:World)(g:Nat):∀(l:List b9)(o:Nat),(∀j(h:j<l.length),jc w g (o+j*4) l[j])->iP w g o l|[],_,_=>trivial|x::l,o,h=>⟨by have:=h 0 (by simp);simpa only[Nat.zero_mul,Nat.add_zero,List.getElem_cons_zero]using this,iP.of w g l (o+4) (fun j C=>by have:=h (j+1) (by simpa using C);rw[show o+(j+1)*4=o+4+j*4 from by omega]at this;simpa only[List.getElem_cons_succ]using this)⟩
def eQ(w:World)(B:Nat)(v:Value)(l:List b9):Prop:=∃j cap,v=.slice j l.length cap/\l.length<=cap/\l.length<=4294967296/\(l≠[]->∃b o,j=some ⟨b,o,none⟩/\b<B/\iP w b o l)
theorem eQ.carry{w w':World}{B:Nat}{v:Value}{l:List b9}(h:eQ w B v l)(U:Below B w w'):eQ w' B v l:=by obtain⟨I,cap,J,P,R,T⟩:=h;refine⟨I,cap,J,P,R,fun C=>?_⟩;obtain⟨b,o,e,j,hr⟩:=T C;exact⟨b,o,e,j,hr.carry j U⟩
theorem eQ.up{w:World}{B C:Nat}{v:Value}{l:List b9}(h:eQ w B v l)(hB:B<=C):eQ w C v l:=by obtain⟨I,cap,J,P,R,T⟩:=h;refine⟨I,cap,J,P,R,fun j=>?_⟩;obtain⟨b,o,e,U,hr⟩:=T j;exact⟨b,o,e,by omega,hr⟩
theorem jc.block{w w':World}{b o:Nat}{x:b9}(h:jc w b o x)(j:w'.heap[b]?=w.heap[b]?):jc w' b o x:=by obtain⟨l,C,I,J⟩:=h;exact⟨(World.cell?_of_block (a:=⟨b,_,none⟩) j).trans l,(World.cell?_of_block (a:=⟨b,_,none⟩) j).trans C,(World.cell?_of_block (a:=⟨b,_,none⟩) j).trans I,(World.cell?_of_block (a:=⟨b,_,none⟩) j).trans J⟩
theorem iP.block{w w':World}{b:Nat}(j:w'.heap[b]?=w.heap[b]?):∀{l:List b9}{o:Nat},iP w b o l->iP w' b o l|[],_,_=>trivial|_::_,_,h=>⟨h.1.block j,iP.block j h.2⟩
theorem eQ.aB{w w':World}{B I:Nat}{v:Value}{l:List b9}(h:eQ w B v l)(hB:B<=I)(U:∀b,v.ownBlock=some b->b<B->w'.heap[b]?=w.heap[b]?):eQ w' I v l:=by obtain⟨J,cap,rfl,P,R,T⟩:=h;refine⟨J,cap,rfl,P,R,fun C=>?_⟩;obtain⟨b,o,rfl,j,hr⟩:=T C;exact⟨b,o,rfl,by omega,hr.block (U b rfl j)⟩
theorem eQ.ix{w:World}{B:Nat}{v:Value}{l:List b9}(h:eQ w B v l):l.length<=4294967296:=by obtain⟨j,cap,_,C,I,_⟩:=h;omega
theorem Ib(x:b9)(w:World):Calls Tryz.prog 143 #[x.val,x.val] w fun e w'=>e=.returned (.bool true)/\Below w.heap.size w w':=by unfold b9.val;go_enter Tryz.func143,Tryz.ntmps143;go_wp2_with fail;go_ret;exact⟨rfl,(ae _ _).trans ((ae _ _).mono (by simp))⟩
structure bo where
 role:ByteArray
 kind:Int
 peer:ByteArray
 label:ByteArray
 sort:Int
def bo.val(x:bo):Value:=.agg #[.string x.role,.int .i64 x.kind,.string x.peer,.string x.label,.int .i64 x.sort]
def bo.ok(x:bo):Prop:=x.role.size<=maxLen/\x.peer.size<=maxLen/\x.label.size<=maxLen
def bo.fit(x:bo):Prop:=x.role.size<=1048576/\x.peer.size<=1048576/\x.label.size<=1048576
def dJ(w:World)(b o:Nat)(x:bo):Prop:=w.cell? ⟨b,o,none⟩=some (.string x.role)/\w.cell? ⟨b,o+1,none⟩=some (.int .i64 x.kind)/\w.cell? ⟨b,o+2,none⟩=some (.string x.peer)/\w.cell? ⟨b,o+3,none⟩=some (.string x.label)/\w.cell? ⟨b,o+4,none⟩=some (.int .i64 x.sort)
def eB(w:World)(b:Nat):Nat->List bo->Prop|_,[]=>True|o,x::l=>dJ w b o x/\eB w b (o+5) l
theorem dJ.carry{w w':World}{b o:Nat}{x:bo}(h:dJ w b o x){B:Nat}(j:b<B)(l:Below B w w'):dJ w' b o x:=by obtain⟨C,I,J,P,R⟩:=h;exact⟨(l.cell (p:=⟨b,_,none⟩) j).trans C,(l.cell (p:=⟨b,_,none⟩) j).trans I,(l.cell (p:=⟨b,_,none⟩) j).trans J,(l.cell (p:=⟨b,_,none⟩) j).trans P,(l.cell (p:=⟨b,_,none⟩) j).trans R⟩
theorem dJ.lt{w:World}{b o:Nat}{x:bo}(h:dJ w b o x):b<w.heap.size:=World.block_lt_of_cell? w _ h.1
theorem eB.carry{w w':World}{b B:Nat}(j:b<B)(C:Below B w w'):∀{l:List bo}{o:Nat},eB w b o l->eB w' b o l|[],_,_=>trivial|_::_,_,h=>⟨h.1.carry j C,eB.carry j C h.2⟩
theorem eB.get{w:World}{b:Nat}:∀{l:List bo}{o:Nat},eB w b o l->∀i(h:i<l.length),dJ w b (o+i*5) l[i]|_::_,_,h,0,_=>by simpa using h.1|_::l,o,h,i+1,hi=>by have:=h.2.get i (by simpa using hi);rw[show o+5+i*5=o+(i+1)*5 from by omega]at this;simpa using this
theorem eB.of(w:World)(g:Nat):∀(l:List bo)(o:Nat),(∀j(h:j<l.length),dJ w g (o+j*5) l[j])->eB w g o l|[],_,_=>trivial|x::l,o,h=>⟨by have:=h 0 (by simp);simpa only[Nat.zero_mul,Nat.add_zero,List.getElem_cons_zero]using this,eB.of w g l (o+5) (fun j C=>by have:=h (j+1) (by simpa using C);rw[show o+(j+1)*5=o+5+j*5 from by omega]at this;simpa only[List.getElem_cons_succ]using this)⟩
def dh(w:World)(B:Nat)(v:Value)(l:List bo):Prop:=∃j cap,v=.slice j l.length cap/\l.length<=cap/\l.length<=4294967296/\(l≠[]->∃b o,j=some ⟨b,o,none⟩/\b<B/\eB w b o l)
theorem dh.carry{w w':World}{B:Nat}{v:Value}{l:List bo}(h:dh w B v l)(U:Below B w w'):dh w' B v l:=by obtain⟨I,cap,J,P,R,T⟩:=h;refine⟨I,cap,J,P,R,fun C=>?_⟩;obtain⟨b,o,e,j,hr⟩:=T C;exact⟨b,o,e,j,hr.carry j U⟩
theorem dh.up{w:World}{B C:Nat}{v:Value}{l:List bo}(h:dh w B v l)(hB:B<=C):dh w C v l:=by obtain⟨I,cap,J,P,R,T⟩:=h;refine⟨I,cap,J,P,R,fun j=>?_⟩;obtain⟨b,o,e,U,hr⟩:=T j;exact⟨b,o,e,by omega,hr⟩
theorem dJ.block{w w':World}{b o:Nat}{x:bo}(h:dJ w b o x)(j:w'.heap[b]?=w.heap[b]?):dJ w' b o x:=by obtain⟨l,C,I,J,P⟩:=h;exact⟨(World.cell?_of_block (a:=⟨b,_,none⟩) j).trans l,(World.cell?_of_block (a:=⟨b,_,none⟩) j).trans C,(World.cell?_of_block (a:=⟨b,_,none⟩) j).trans I,(World.cell?_of_block (a:=⟨b,_,none⟩) j).trans J,(World.cell?_of_block (a:=⟨b,_,none⟩) j).trans P⟩
theorem eB.block{w w':World}{b:Nat}(j:w'.heap[b]?=w.heap[b]?):∀{l:List bo}{o:Nat},eB w b o l->eB w' b o l|[],_,_=>trivial|_::_,_,h=>⟨h.1.block j,eB.block j h.2⟩
theorem dh.aB{w w':World}{B I:Nat}{v:Value}{l:List bo}(h:dh w B v l)(hB:B<=I)(U:∀b,v.ownBlock=some b->b<B->w'.heap[b]?=w.heap[b]?):dh w' I v l:=by obtain⟨J,cap,rfl,P,R,T⟩:=h;refine⟨J,cap,rfl,P,R,fun C=>?_⟩;obtain⟨b,o,rfl,j,hr⟩:=T C;exact⟨b,o,rfl,by omega,hr.block (U b rfl j)⟩
theorem dh.ix{w:World}{B:Nat}{v:Value}{l:List bo}(h:dh w B v l):l.length<=4294967296:=by obtain⟨j,cap,_,C,I,_⟩:=h;omega
theorem Tryz.yi:(Tryz.prog.info? 115).map (fun i=>(i.zero,i.size,i.bytes))=some (some (.agg #[.string ByteArray.empty,.int .i64 0,.string ByteArray.empty,.string ByteArray.empty,.int .i64 0]),5,64):=by kernel_rfl
theorem CY(x:bo)(w:World):Calls Tryz.prog 119 #[x.val,x.val] w fun e w'=>e=.returned (.bool true)/\Below w.heap.size w w':=by unfold bo.val;go_enter Tryz.func119,Tryz.ntmps119;go_wp2_with(go_at_call 143;refine(Ib ⟨x.kind,x.peer,x.label,x.sort⟩ _).mono ?_;rintro e C⟨rfl,j⟩;have l:=aa j;clear j);go_ret;exact⟨rfl,((ae _ _).trans ((ae _ _).mono (by simp))).trans (l.out.mono (by simp;omega))⟩
theorem A4(l:List bo)(v u:Value)(w:World)(hv:dh w w.heap.size v l)(hu:dh w w.heap.size u l):Calls Tryz.prog 60 #[v,u] w fun e w'=>e=.returned (.bool true)/\Below w.heap.size w w':=by
 obtain⟨ao,cap,rfl,hc,hm,hr⟩:=hv;obtain⟨av,aq,rfl,ax,ay,af⟩:=hu;have HR:=aa hr;have al:=aa af;clear hr af;go_enter Tryz.func60,Tryz.ntmps60;go_wp2_with fail;go_loopw[5](fun i wr=>∃k:Nat,k<=l.length/\i=.int .i64 k/\Below w.heap.size w wr)(fun i _=>l.length-(intOf i).toNat);case atStart=>exact⟨0,Nat.zero_le _,rfl,Below.refl _ _⟩
 case round=>
  obtain⟨k,hk,rfl,I⟩:=hrel;have j:=aa I;have R:=I.size;clear I;by_cases T:k<l.length;·
   obtain⟨b,o,rfl,an,U⟩:=HR.out (by intro h;simp[h]at T);obtain⟨b',o',rfl,ad,P⟩:=al.out (by intro h;simp[h]at T);have J:=(U.get k T).carry an j.out;have C:=(P.get k T).carry ad j.out;obtain⟨x1,ah⟩:∃x1,x1=l[k]:=⟨_,rfl⟩;rw[<-ah]at J C;clear ah U P;obtain⟨c0,c1,c2,c3,c4⟩:=J;obtain⟨d0,d1,d2,d3,d4⟩:=C;go_wp2_with fail;go_region_with(go_at_call 119;refine(CY x1 _).mono ?_;rintro e w1⟨rfl,ac⟩;have ab:=aa ac;clear ac);go_wp2_with fail;all_goals
    go_roundw;case rel=>exact⟨k+1,by omega,by go_num,by first|exact j.out.trans (ab.out.mono R)|exact j.out.drew.trans (ab.out.mono R)|exact j.out.drew.drew.trans (ab.out.mono R)⟩
    case measure=>simp[intOf];omega
  ·go_wp2_with fail;go_ret;exact⟨rfl,j.out⟩
theorem eQ.sep{w w':World}{v:Value}{x:List b9}{l:List Nat}(h:eQ w w.heap.size v x)(C:aG w w' l)(hd:∀b∈ag v,b∉l):eQ w' w'.heap.size v x:=by have H:=h;obtain⟨J,P,rfl,_⟩:=h;exact H.aB C.size (fun b I j=>C.block b j (hd b ((aS rfl).1 I)))
theorem eQ.tu{w w':World}{v:Value}{x:List b9}{l:List Nat}(h:eQ w w.heap.size v x)(C:aG w w' l)(hd:∀b∈l,w.heap.size<=b):eQ w' w'.heap.size v x:=by have H:=h;obtain⟨J,P,rfl,_⟩:=h;exact H.aB C.size (fun b R j=>C.block b j (fun I=>absurd (hd b I) (by omega)))
theorem eQ.shape{w:World}{B:Nat}{v:Value}{x:List b9}(h:eQ w B v x):∃p c,v=.slice p x.length c:=by obtain⟨j,l,e,_⟩:=h;exact⟨j,l,e⟩
section
open Go.RowKit Go.Maps
def kt(f:Int)(a:b9):Value:=.agg #[.int .i64 f,.int .i64 a.kind,.string a.peer,.string a.label,.int .i64 a.sort]
def rC(z:Int):Prop:=-9223372036854775808<=z/\z<=9223372036854775807
def b9.E4(a:b9):Prop:=rC a.kind/\rC a.sort
theorem uB{z:Int}(h:rC z):(Lit.int .i64 z).wf=true:=by simp[Lit.wf,IntKind.min,IntKind.max,IntKind.signed,IntKind.bits];exact h
theorem Tryz.Dw:laidOutB Tryz.prog=true:=by kernel_rfl
theorem Tryz.GK:(316:TypeId)<Tryz.prog.types.size:=of_decide_eq_true (by kernel_rfl)
theorem Tryz.ug:Tryz.prog.cellsOf 316=5:=by kernel_rfl
theorem Tryz.Ct:Tryz.prog.cellsOf 104=4:=by kernel_rfl
theorem Tryz.Df:Tryz.prog.cellsOf 2=1:=by kernel_rfl
theorem Tryz.strCells:Tryz.prog.cellsOf 9=1:=by kernel_rfl
theorem Tryz.EK:Tryz.prog.keyType 316=true:=by kernel_rfl
theorem ju:Keyed Tryz.prog 316:=Keyed.of_law (deep_law_laid Tryz.Dw (m:=4) (by omega) Tryz.GK (by kernel_rfl) (by kernel_rfl))
theorem Tryz.EM:2<Tryz.prog.types.size:=of_decide_eq_true (by kernel_rfl)
theorem Tryz.Cd:∃d,Tryz.prog.types.size+1=d+3:=by have h:=Tryz.EM;generalize Tryz.prog.types.size=n at h;exact⟨n-2,by omega⟩
theorem xN(f:Int)(a:b9)(R:rC f)(C:a.E4)(l:a.ok):∃T,keyOf Tryz.prog 316 (kt f a)=some T:=by
 obtain⟨d,hd⟩:=Tryz.Cd;have I:=uB R;have J:=uB C.1;have P:=uB C.2;have j:(kt f a).formed Tryz.prog 316=true:=by simp[Value.formed,kt,Tryz.underlying316,Tryz.ug]
 unfold keyOf;rw[Tryz.underlying316];simp only[];rw[if_pos (by rw[Tryz.EK,j];rfl),hd];simp+decide[Program.keyLits,kt,Value.cells,Tryz.underlying316,Tryz.underlying2,Tryz.underlying104,Tryz.underlying9,Tryz.ug,Tryz.Ct,Tryz.Df,Tryz.strCells,I,J,P,l.1,l.2]
end
section
open Go.RowKit Go.ChangeShapes Go.WideShapes
theorem Tryz.G0:Tryz.prog.cellsOf 141=4:=by kernel_rfl
theorem xk{H:Type}{enc:TypeId×Value->H}{w:World}{base:Nat}{spare:Nat->Bool}{held:Bool}{fuel:Nat}{cs:List Value}{x:DataW H×List MemPlace}(h:DataW.trod enc Tryz.prog w base spare held fuel 141 cs=some x):∃n:aF,n.ok/\cs[0]?=some (.string n.cE)/\cs[1]?=some (.string n.to)/\cs[2]?=some (.string n.label)/\cs[3]?=some (.int .i64 n.sort):=by obtain⟨J,n,_,_,hl,j,l⟩:=DataW.trod_struct Tryz.underlying141 h;have C:J.length=4:=j;match J,C with|[y0,y1,y2,y3],_=>have I:DataW.trod enc Tryz.prog w base spare held n 9 ((cs.drop 0).take (Tryz.prog.cellsOf 9))=some y0:=l 0 _ rfl;have g1:DataW.trod enc Tryz.prog w base spare held n 9 ((cs.drop 1).take (Tryz.prog.cellsOf 9))=some y1:=l 1 _ rfl;have g2:DataW.trod enc Tryz.prog w base spare held n 9 ((cs.drop 2).take (Tryz.prog.cellsOf 9))=some y2:=l 2 _ rfl;have g3:DataW.trod enc Tryz.prog w base spare held n 2 ((cs.drop 3).take (Tryz.prog.cellsOf 2))=some y3:=l 3 _ rfl;rw[Tryz.JU]at g3;rw[Tryz.Kh]at I g1 g2;obtain⟨z0,P,_,k0⟩:=DataW.trod_string Tryz.underlying9 I;obtain⟨z1,R,_,k1⟩:=DataW.trod_string Tryz.underlying9 g1;obtain⟨z2,T,_,k2⟩:=DataW.trod_string Tryz.underlying9 g2;obtain⟨z3,U,_⟩:=DataW.trod_int Tryz.underlying2 g3;exact⟨⟨z0,z1,z2,z3⟩,⟨k0,k1,k2⟩,n9 P,n9 R,n9 T,n9 U⟩
theorem BD{H:Type}{enc:TypeId×Value->H}{w:World}{base:Nat}{spare:Nat->Bool}{held:Bool}{fuel:Nat}{a0:Option Addr}{l P:Nat}{x:DataW H×List MemPlace}(h:DataW.trod enc Tryz.prog w base spare held fuel 24 [.slice a0 l P]=some x):∃ns:List aF,ns.length=l/\(∀n∈ns,n.ok)/\ns.length<=maxLen/\(ns≠[]->∃b o,a0=some ⟨b,o,none⟩/\b<w.heap.size/\dB w b o ns):=by
 rcases Go.Deep.open_slice Tryz.underlying24 h with⟨R,_⟩|⟨a,len,cap,m,n,D,Pl,U,hb,hl,hm,an,hx,ab⟩;·simp at R;obtain⟨rfl,rfl,rfl⟩:=R;exact⟨[],rfl,by simp,Nat.zero_le _,fun h=>absurd rfl h⟩
 ·simp at U;obtain⟨rfl,rfl,rfl⟩:=U;have av:l<=m:=by rw[an];split<;>omega
  have each:∀i,i<l->∃nd:aF,nd.ok/\∀b o,a=⟨b,o,none⟩->dR w b (o+i*4) nd:=by
   intro i hi;obtain⟨ah,T,h2⟩:=ab i (by omega);rw[Tryz.G0]at T;obtain⟨_,ac,C⟩:=World.cells?_some T;obtain⟨nd,ad,e0,e1,e2,e3⟩:=xk h2;refine⟨nd,ad,fun b o al=>?_⟩;subst al;have pl:∀j,((⟨b,o,none⟩:Addr).add (i*4)).add j=⟨b,o+i*4+j,none⟩:=fun j=>by rw[Go.Deep.add_add];unfold Addr.add;split<;>simp_all<;>omega
   refine⟨?_,?_,?_,?_⟩;·have:=C 0 (by omega);rw[pl,e0]at this;exact this
   ·have:=C 1 (by omega);rw[pl,e1]at this;exact this
   ·have:=C 2 (by omega);rw[pl,e2]at this;exact this
   ·have:=C 3 (by omega);rw[pl,e3]at this;exact this
  have:Inhabited aF:=⟨⟨ByteArray.empty,ByteArray.empty,ByteArray.empty,0⟩⟩;obtain⟨q,hq⟩:=Go.Deep.choose_lt each;refine⟨(List.range l).map q,by simp,?_,by simp;omega,fun ao=>?_⟩;·intro x hx;obtain⟨i,hi,rfl⟩:=List.mem_map.1 hx;exact(hq i (List.mem_range.1 hi)).1
  ·have I:0<l:=by
    rcases Nat.eq_zero_or_pos l with h|h;·subst h;simp at ao
    ·exact h
   obtain⟨b,o,s⟩:=a;have aq:∀i,i<l->((Addr.add ⟨b,o,s⟩ (i*4)).add 0).spot=none:=by intro i hi;obtain⟨ah,T,h2⟩:=ab i (by omega);rw[Tryz.G0]at T;obtain⟨_,ac,C⟩:=World.cells?_some T;obtain⟨nd,ad,e0,_⟩:=xk h2;have R:=C 0 (by omega);rw[e0]at R;exact World.cell?_spot R
   have J:s=none:=by simpa[Addr.add]using aq 0 I
   subst J;have af:dB w b o ((List.range l).map q):=dB.of w b _ o (fun j hj=>by simp only[List.getElem_map,List.getElem_range];exact(hq j (by simpa using hj)).2 b o rfl);refine⟨b,o,rfl,?_,af⟩;have:=(hq 0 I).2 b o rfl;exact this.lt
end
def b9.cells(x:b9):List Value:=[.int .i64 x.kind,.string x.peer,.string x.label,.int .i64 x.sort]
theorem b9.bg(x:b9):x.cells.length=4:=rfl
theorem b9.cells_one(x:b9):∀u∈x.cells,u.oneCell'=true:=by intro u hu;simp[b9.cells]at hu;rcases hu with rfl|rfl|rfl|rfl<;>rfl
def cW(w:World)(base:Nat)(v:Value)(l:List b9):Prop:=w.ownsRow base 104 4 v l.length (l.flatMap b9.cells)
theorem cW.sl{w:World}{base:Nat}{v:Value}{l:List b9}(h:cW w base v l)(hl:l.length<=4294967296):eQ w w.heap.size v l:=by
 have H:=h;obtain⟨_,T⟩:=h;rcases T with⟨rfl,P⟩|⟨I,cap,J,rfl,hg,C,R,_⟩;·have:l=[]:=List.length_eq_zero_iff.1 P;subst this;exact⟨none,0,rfl,Nat.le_refl _,by simp,fun h=>absurd rfl h⟩
 ·refine⟨_,_,rfl,R,hl,fun _=>⟨I,0,rfl,(Array.getElem?_eq_some_iff.1 C).1,iP.of w I l 0 (fun j U=>?_)⟩⟩;rw[Nat.zero_add];have e:=fun i(hi:i<4)(x:Value)(hx:(l[j].cells)[i]?=some x)=>cQ H rfl (j*4+i) x ((dQ b9.cells 4 b9.bg l j U i hi).trans hx);exact⟨e 0 (by omega) _ rfl,e 1 (by omega) _ rfl,e 2 (by omega) _ rfl,e 3 (by omega) _ rfl⟩
theorem cW.aB{w w':World}{base:Nat}{v:Value}{x:List b9}{l:List Nat}(h:cW w base v x)(j:aG w w' l)(hd:∀b∈ag v,b∉l):cW w' base v x:=aK h j hd
theorem cW.below{w w':World}{base:Nat}{v:Value}{x:List b9}(h:cW w base v x)(j:Below w.heap.size w w'):cW w' base v x:=aQ h j
theorem cW.fresh{w:World}{base:Nat}{v:Value}{x:List b9}(h:cW w base v x):dy base w v:=ak h
theorem cW.nil(w:World)(base:Nat):cW w base (.slice none 0 0) []:=de w base _ _
theorem cW.snoc{w:World}{base:Nat}{v:Value}{l:List b9}{x:b9}(h:w.ownsRow base 104 4 v (l.length+1) (l.flatMap b9.cells++x.cells)):cW w base v (l++[x]):=by unfold cW;rw[List.length_append,List.length_singleton,List.flatMap_append];simpa using h
def eK(k:Nat):bo:=⟨fL (k+0),((k+1:Nat):Int),fL (k+2),fL (k+3),((k+4:Nat):Int)⟩
def dk(k n:Nat):List bo:=(List.range n).map fun i=>eK (k+i*5)
theorem eu(k n:Nat):(dk k n).length=n:=by simp[dk]
theorem k8(k n i:Nat)(h:i<(dk k n).length):(dk k n)[i]=eK (k+i*5):=by simp[dk]
theorem wU(k0:Nat)(ns:List bo)(v:Value)(w:World)(B:Nat)(h1:1<=k0)(hk:k0+ns.length*5<=5900000)(hv:dh w w.heap.size v ns)(aR:oH B w v):Calls Tryz.prog 65 #[v,.int .i64 k0] w fun e w'=>e=.returned (.int .i64 ((k0+ns.length*5:Nat):Int))/\dh w' w'.heap.size v (dk k0 ns.length)/\w.grownBy w' v.ownBlock:=by
 obtain⟨ao,cap,rfl,hc,hm,hr⟩:=hv;have HR:=aa hr;have HO:=aa aR;obtain⟨n,hn⟩:∃n,ns.length=n:=⟨_,rfl⟩;rw[hn]at hc hk hm|-;have HN:=aa hn;clear hr aR hn;by_cases bz:n=0;·
  subst bz;go_enter Tryz.func65,Tryz.ntmps65;go_wp2_with fail;go_loopw[1,5](fun kv i wr=>i=.int .i64 0/\kv=.int .i64 (k0:Int)/\wr=w)(fun _ _ _=>0);case atStart=>exact⟨rfl,rfl,rfl⟩
  case round=>obtain⟨rfl,rfl,rfl⟩:=hrel;go_wp2_with fail;go_ret;exact⟨aY rfl,⟨_,_,rfl,by simp[dk],by simp[dk],fun h=>absurd rfl h⟩,gw _ _⟩
 ·have bR:ns≠[]:=fun h=>bz (by rw[<-HN.out,h];rfl);obtain⟨b,o,rfl,bx,a5⟩:=HR.out bR;obtain⟨hB,-,bp⟩:=HO.out.free b rfl;have bB:Hid (∀i,i<n->∃P,dJ w b (o+i*5) P):=aa (fun i hi=>⟨_,a5.get i (by rw[HN.out];exact hi)⟩);have bL:=aa bp;clear a5 bp;go_enter Tryz.func65,Tryz.ntmps65;go_wp2_with fail;go_loopw[1,5](fun kv i wr=>∃k:Nat,k<=n/\i=.int .i64 k/\kv=.int .i64 ((k0+k*5:Nat):Int)/\(∀j,j<k->dJ wr b (o+j*5) (eK (k0+j*5)))/\(∀j,j<n->∃P,dJ wr b (o+j*5) P)/\(∀j,wr.frozen? ⟨b,j,none⟩=false)/\w.grownBy wr (some b))(fun _ i _=>n-(intOf i).toNat);case atStart=>exact⟨0,Nat.zero_le _,rfl,rfl,fun j h=>absurd h (by omega),bB.out,bL.out,gw _ _⟩
  case round=>
   obtain⟨k,hk,rfl,rfl,ab,ay,ad,az⟩:=hrel;have HD:=aa ab;have HE:=aa ay;have HF:=aa ad;have HG:=aa az;have bn:b<wr.heap.size:=Nat.lt_of_lt_of_le bx az.size;by_cases bN:k<n;·
    obtain⟨P,g0,g1,g2,g3,g4⟩:=ay k bN;have cr:=ad (o+k*5);obtain⟨kk,a6⟩:∃kk,k0+k*5=kk:=⟨_,rfl⟩;rw[a6];have cb:kk<5900001:=by omega
    have ca:1<=kk:=by omega
    have bb:=aa a6;have l:Hid (∀(W:World)(x:Value)(i j:Nat),i≠j->(W.setCell ⟨b,o+k*5+i,none⟩ x).cell? ⟨b,o+k*5+j,none⟩=W.cell? ⟨b,o+k*5+j,none⟩):=aa (fun W x i j bM=>World.cell?_setCell_other _ _ _ _ (fun h=>bM (by injection h with h1 h2;omega)));have I:=aa (And.intro g0 (And.intro g1 (And.intro g2 (And.intro g3 g4))));clear ab ay ad az a6 g1 g2 g3 g4;go_wp2_with(first|(go_at_call 71;refine(cH (kk+3) _ _ (by omega) (by omega) (by omega)).mono ?_;rintro e w3⟨rfl,aq⟩;have b7:b<w3.heap.size:=(by have:=aq.size;(try simp at this);omega);have bv:=(fun j=>aq.cell (p:=⟨b,j,none⟩) (by simpa using aM));have ah:Hid (∀j,w3.frozen? ⟨b,j,none⟩=false):=aa (fun j=>(aq.frozen (p:=⟨b,j,none⟩) (by simpa using aM)).trans ((World.frozen?_setCell _ _ _ _).trans (ac.out j)));have af:=aa bv;have bl:w3.cell? ⟨b,o+k*5+3,none⟩=some (.string P.label):=((af.out _).trans ((l.out _ _ 2 3 (by decide)).trans ((R.out _).trans ((l.out _ _ 1 3 (by decide)).trans ((l.out _ _ 0 3 (by decide)).trans ((C.out _).trans I.out.2.2.2.1))))));have bm:w3.cell? ⟨b,o+k*5+4,none⟩=some (.int .i64 P.sort):=((af.out _).trans ((l.out _ _ 2 4 (by decide)).trans ((R.out _).trans ((l.out _ _ 1 4 (by decide)).trans ((l.out _ _ 0 4 (by decide)).trans ((C.out _).trans I.out.2.2.2.2))))));have cp:=ah.out (o+k*5+3);have cq:=ah.out (o+k*5+4);have a9:Hid (w.grownBy w3 (some b)):=aa (e9 (dO a8.out _ _) aq);clear aq bv)|(go_at_call 71;refine(cH (kk+2) _ _ (by omega) (by omega) (by omega)).mono ?_;rintro e w2⟨rfl,an⟩;have aM:b<w2.heap.size:=(by have:=an.size;(try simp at this);omega);have bs:=(fun j=>an.cell (p:=⟨b,j,none⟩) (by simpa using aL));have ac:Hid (∀j,w2.frozen? ⟨b,j,none⟩=false):=aa (fun j=>(an.frozen (p:=⟨b,j,none⟩) (by simpa using aL)).trans ((World.frozen?_setCell _ _ _ _).trans ((World.frozen?_setCell _ _ _ _).trans (J.out j))));have R:=aa bs;have bk:w2.cell? ⟨b,o+k*5+2,none⟩=some (.string P.peer):=((R.out _).trans ((l.out _ _ 1 2 (by decide)).trans ((l.out _ _ 0 2 (by decide)).trans ((C.out _).trans I.out.2.2.1))));have b4:w2.cell? ⟨b,o+k*5+3,none⟩=some (.string P.label):=((R.out _).trans ((l.out _ _ 1 3 (by decide)).trans ((l.out _ _ 0 3 (by decide)).trans ((C.out _).trans I.out.2.2.2.1))));have b5:w2.cell? ⟨b,o+k*5+4,none⟩=some (.int .i64 P.sort):=((R.out _).trans ((l.out _ _ 1 4 (by decide)).trans ((l.out _ _ 0 4 (by decide)).trans ((C.out _).trans I.out.2.2.2.2))));have cl:=ac.out (o+k*5+2);have cm:=ac.out (o+k*5+3);have cn:=ac.out (o+k*5+4);have a8:Hid (w.grownBy w2 (some b)):=aa (e9 (dO (dO a7.out _ _) _ _) an);clear an bs)|(go_at_call 71;refine(cH (kk+0) _ _ (by omega) (by omega) (by omega)).mono ?_;rintro e w1⟨rfl,al⟩;have aL:b<w1.heap.size:=(by have:=al.size;(try simp at this);omega);have br:=(fun j=>al.cell (p:=⟨b,j,none⟩) (by simpa using bn));have J:Hid (∀j,w1.frozen? ⟨b,j,none⟩=false):=aa (fun j=>(al.frozen (p:=⟨b,j,none⟩) (by simpa using bn)).trans (HF.out j));have C:=aa br;have bf:w1.cell? ⟨b,o+k*5,none⟩=some (.string P.role):=((C.out _).trans I.out.1);have bi:w1.cell? ⟨b,o+k*5+1,none⟩=some (.int .i64 P.kind):=((C.out _).trans I.out.2.1);have b1:w1.cell? ⟨b,o+k*5+2,none⟩=some (.string P.peer):=((C.out _).trans I.out.2.2.1);have b2:w1.cell? ⟨b,o+k*5+3,none⟩=some (.string P.label):=((C.out _).trans I.out.2.2.2.1);have b3:w1.cell? ⟨b,o+k*5+4,none⟩=some (.int .i64 P.sort):=((C.out _).trans I.out.2.2.2.2);have cc:=J.out (o+k*5);have cd:=J.out (o+k*5+1);have cf:=J.out (o+k*5+2);have cg:=J.out (o+k*5+3);have ch:=J.out (o+k*5+4);have a7:Hid (w.grownBy w1 (some b)):=aa (e9 HG.out al);clear al br));go_roundw;case rel=>
     have U:∀(W:World)(x:Value)(p q:Nat),p≠q->(W.setCell ⟨b,p,none⟩ x).cell? ⟨b,q,none⟩=W.cell? ⟨b,q,none⟩:=fun W x p q b0=>World.cell?_setCell_other _ _ _ _ (fun h=>b0 (by injection h));have T:∀x,(x<o+k*5\/o+k*5+5<=x)->(((w3.setCell ⟨b,o+k*5+3,none⟩ (.string (fL (kk+3)))).setCell ⟨b,o+k*5+4,none⟩ (.int .i64 ((kk:Int)+1+1+1+1)))).cell? ⟨b,x,none⟩=wr.cell? ⟨b,x,none⟩:=fun x hx=>by rw[U _ _ _ _ (by omega),U _ _ _ _ (by omega),af.out,U _ _ _ _ (by omega),R.out,U _ _ _ _ (by omega),U _ _ _ _ (by omega),C.out]
     have aN:dJ (((w3.setCell ⟨b,o+k*5+3,none⟩ (.string (fL (kk+3)))).setCell ⟨b,o+k*5+4,none⟩ (.int .i64 ((kk:Int)+1+1+1+1)))) b (o+k*5) (eK kk):=by
      refine⟨?_,?_,?_,?_,?_⟩;·rw[U _ _ _ _ (by omega),U _ _ _ _ (by omega),af.out,U _ _ _ _ (by omega),R.out,U _ _ _ _ (by omega)];refine(World.cell?_setCell_same _ _ _ (u:=.string P.role) (by exact bf)).trans (by simp[eK];try omega)
      ·rw[U _ _ _ _ (by omega),U _ _ _ _ (by omega),af.out,U _ _ _ _ (by omega),R.out];refine(World.cell?_setCell_same _ _ _ (u:=.int .i64 P.kind) (by rw[U _ _ _ _ (by omega)];exact bi)).trans (by simp[eK];try omega)
      ·rw[U _ _ _ _ (by omega),U _ _ _ _ (by omega),af.out];refine(World.cell?_setCell_same _ _ _ (u:=.string P.peer) (by exact bk)).trans (by simp[eK];try omega)
      ·rw[U _ _ _ _ (by omega)];refine(World.cell?_setCell_same _ _ _ (u:=.string P.label) (by exact bl)).trans (by simp[eK];try omega)
      ·refine(World.cell?_setCell_same _ _ _ (u:=.int .i64 P.sort) (by rw[U _ _ _ _ (by omega)];exact bm)).trans (by simp[eK];try omega)
     have ax:∀j x,j≠k->dJ wr b (o+j*5) x->dJ (((w3.setCell ⟨b,o+k*5+3,none⟩ (.string (fL (kk+3)))).setCell ⟨b,o+k*5+4,none⟩ (.int .i64 ((kk:Int)+1+1+1+1)))) b (o+j*5) x:=fun j x hj hx=>by obtain⟨a0,a1,a2,a3,a4⟩:=hx;exact⟨(T _ (by omega)).trans a0,(T _ (by omega)).trans a1,(T _ (by omega)).trans a2,(T _ (by omega)).trans a3,(T _ (by omega)).trans a4⟩
     refine⟨k+1,by omega,by go_num,by have:=bb.out;congr 1;omega,fun j hj=>?_,fun j hj=>?_,fun j=>?_,(dO (dO a9.out _ _) _ _)⟩;·
      by_cases av:j=k;·subst av;rw[bb.out];exact aN
      ·exact ax j _ av (HD.out j (by omega))
     ·by_cases av:j=k;·subst av;exact⟨_,aN⟩
      ·obtain⟨x,hx⟩:=HE.out j hj;exact⟨x,ax j x av hx⟩
     ·rw[World.frozen?_setCell,World.frozen?_setCell];exact ah.out j
    case measure=>simp[intOf];omega
   ·clear ab ay ad az;go_wp2_with fail;go_ret;refine⟨aY (by omega),⟨_,_,by rw[eu],by rw[eu];exact hc,by rw[eu];exact hm,fun _=>⟨b,o,rfl,Nat.lt_of_lt_of_le bx HG.out.size,eB.of _ _ _ _ (fun j hj=>?_)⟩⟩,HG.out⟩;rw[k8];rw[eu]at hj;exact HD.out j (by omega)
theorem wq(k0 n:Nat)(v:Value)(w:World)(h1:1<=k0)(hk:k0+n*5<=5900000)(hv:dh w w.heap.size v (dk k0 n)):Calls Tryz.prog 67 #[v,.int .i64 k0] w fun e w'=>e=.returned (.int .i64 ((k0+n*5:Nat):Int))/\Below w.heap.size w w':=by
 obtain⟨ao,cap,rfl,hc,hm,hr⟩:=hv;rw[eu]at hc|-;have HR:=aa hr;clear hr;go_enter Tryz.func67,Tryz.ntmps67;go_wp2_with fail;go_loopw[1,5](fun kv i wr=>∃k:Nat,k<=n/\i=.int .i64 k/\kv=.int .i64 ((k0+k*5:Nat):Int)/\Below w.heap.size w wr)(fun _ i _=>n-(intOf i).toNat);case atStart=>exact⟨0,Nat.zero_le _,rfl,rfl,Below.refl _ _⟩
 case round=>
  obtain⟨k,a6,rfl,rfl,C⟩:=hrel;have R:=aa C;have a5:=C.size;by_cases a2:k<n;·
   have T:k<(dk k0 n).length:=by rw[eu];exact a2
   obtain⟨b,o,rfl,a1,an⟩:=HR.out (by intro h;rw[h]at T;simp at T);have J:=(an.get k T).carry a1 C;rw[k8]at J;obtain⟨kk,aq⟩:∃kk,k0+k*5=kk:=⟨_,rfl⟩;rw[aq]at J|-;have a4:kk<5900001:=by omega
   have a3:1<=kk:=by omega
   have a0:=aa aq;obtain⟨c0,c1,c2,c3,c4⟩:=J;simp only[eK]at c0 c1 c2 c3 c4;clear C an aq;go_wp2_with fail;refine be (by kernel_rfl) (by kernel_rfl) (fun W j=>?_);have U:=bj W;have f0:=au (w:=W) (b:=b) (by rw[j];exact c0);have f1:=au (w:=W) (b:=b) (by rw[j];exact c1);have f2:=au (w:=W) (b:=b) (by rw[j];exact c2);have f3:=au (w:=W) (b:=b) (by rw[j];exact c3);have f4:=au (w:=W) (b:=b) (by rw[j];exact c4);have l:=aa j;clear j;repeat(go_big_quiet_step((go_at_call 71;exact bh (cH (kk+0) _ _ (by omega) (by omega) (by omega)))))
   refine wpQuiet_nil ?_;intro w1 I;have ay:=f0 ⟨w1,I⟩;have az:=f1 ⟨w1,I⟩;have ac:=f2 ⟨w1,I⟩;have ad:=f3 ⟨w1,I⟩;have af:=f4 ⟨w1,I⟩;dsimp only at ay az ac ad af;have av:Hid (Below w.heap.size w w1):=aa (R.out.trans ((by rw[l.out]at I;exact I:Below wr.heap.size wr w1).mono R.out.size));clear l U I f0 f1 f2 f3 f4;go_wp2_with fail;refine be (by kernel_rfl) (by kernel_rfl) (fun W j=>?_);have U:=bj W;have f2:=au (w:=W) (b:=b) (by rw[j];exact ac);have f3:=au (w:=W) (b:=b) (by rw[j];exact ad);have f4:=au (w:=W) (b:=b) (by rw[j];exact af);have l:=aa j;clear j;repeat(go_big_quiet_step((go_at_call 71;exact bh (cH (kk+2) _ _ (by omega) (by omega) (by omega)))))
   refine wpQuiet_nil ?_;intro w2 P;have aL:=f2 ⟨w2,P⟩;have ah:=f3 ⟨w2,P⟩;have al:=f4 ⟨w2,P⟩;dsimp only at aL ah al;have ax:Hid (Below w.heap.size w w2):=aa (av.out.trans ((by rw[l.out]at P;exact P:Below w1.heap.size w1 w2).mono av.out.size));clear l U P f2 f3 f4;go_wp2_with fail;refine be (by kernel_rfl) (by kernel_rfl) (fun W j=>?_);have U:=bj W;have f3:=au (w:=W) (b:=b) (by rw[j];exact ah);have f4:=au (w:=W) (b:=b) (by rw[j];exact al);have l:=aa j;clear j;repeat(go_big_quiet_step((go_at_call 71;exact bh (cH (kk+3) _ _ (by omega) (by omega) (by omega)))))
   refine wpQuiet_nil ?_;intro w3 ab;have aM:=f3 ⟨w3,ab⟩;have aN:=f4 ⟨w3,ab⟩;dsimp only at aM aN;have aR:Hid (Below w.heap.size w w3):=aa (ax.out.trans ((by rw[l.out]at ab;exact ab:Below w2.heap.size w2 w3).mono ax.out.size));clear l U ab f3 f4;go_wp2_with fail;all_goals
    go_roundw;case rel=>exact⟨k+1,by omega,by go_num,by have:=a0.out;congr 1;omega,aR.out⟩
    case measure=>simp[intOf];omega
  ·clear C;go_wp2_with fail;go_ret;exact⟨aY (by omega),R.out⟩
def bo.cells(x:bo):List Value:=[.string x.role,.int .i64 x.kind,.string x.peer,.string x.label,.int .i64 x.sort]
theorem bo.bg(x:bo):x.cells.length=5:=rfl
theorem bo.cells_one(x:bo):∀u∈x.cells,u.oneCell'=true:=by intro u hu;simp[bo.cells]at hu;rcases hu with rfl|rfl|rfl|rfl|rfl<;>rfl
def da(w:World)(base:Nat)(v:Value)(l:List bo):Prop:=w.ownsRow base 115 5 v l.length (l.flatMap bo.cells)
theorem da.sl{w:World}{base:Nat}{v:Value}{l:List bo}(h:da w base v l)(hl:l.length<=4294967296):dh w w.heap.size v l:=by
 have H:=h;obtain⟨_,T⟩:=h;rcases T with⟨rfl,P⟩|⟨I,cap,J,rfl,hg,C,R,_⟩;·have:l=[]:=List.length_eq_zero_iff.1 P;subst this;exact⟨none,0,rfl,Nat.le_refl _,by simp,fun h=>absurd rfl h⟩
 ·refine⟨_,_,rfl,R,hl,fun _=>⟨I,0,rfl,(Array.getElem?_eq_some_iff.1 C).1,eB.of w I l 0 (fun j U=>?_)⟩⟩;rw[Nat.zero_add];have e:=fun i(hi:i<5)(x:Value)(hx:(l[j].cells)[i]?=some x)=>cQ H rfl (j*5+i) x ((dQ bo.cells 5 bo.bg l j U i hi).trans hx);exact⟨e 0 (by omega) _ rfl,e 1 (by omega) _ rfl,e 2 (by omega) _ rfl,e 3 (by omega) _ rfl,e 4 (by omega) _ rfl⟩
theorem da.aB{w w':World}{base:Nat}{v:Value}{x:List bo}{l:List Nat}(h:da w base v x)(j:aG w w' l)(hd:∀b∈ag v,b∉l):da w' base v x:=aK h j hd
theorem da.below{w w':World}{base:Nat}{v:Value}{x:List bo}(h:da w base v x)(j:Below w.heap.size w w'):da w' base v x:=aQ h j
theorem da.fresh{w:World}{base:Nat}{v:Value}{x:List bo}(h:da w base v x):dy base w v:=ak h
theorem da.nil(w:World)(base:Nat):da w base (.slice none 0 0) []:=de w base _ _
theorem da.snoc{w:World}{base:Nat}{v:Value}{l:List bo}{x:bo}(h:w.ownsRow base 115 5 v (l.length+1) (l.flatMap bo.cells++x.cells)):da w base v (l++[x]):=by unfold da;rw[List.length_append,List.length_singleton,List.flatMap_append];simpa using h
