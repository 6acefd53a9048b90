import Derived.Test.YtdiiiijkhpdcbaaGreatDoorRX00
import Derived.DeepKeys4
import Derived.Test.YtdiiiijkhpdcbaaGreatDoorRows
import Derived.Stop.LaidTwo
import Derived.OpenShut
import Derived.Deep.DrawnRows
namespace Go.Proofs.YtdiiiijkhpdcbaaGreatDoor
open Go.RowKit
set_option linter.unusedSimpArgs false
set_option linter.unusedVariables false
set_option maxHeartbeats 2000000
set_option maxRecDepth 100000
structure b8 where
 kind:Int
 peer:ByteArray
 label:ByteArray
 sort:Int
def b8.val(x:b8):Value:=.agg #[.int .i64 x.kind,.string x.peer,.string x.label,.int .i64 x.sort]
def b8.ok(x:b8):Prop:=x.peer.size<=maxLen/\x.label.size<=maxLen
def b8.fit(x:b8):Prop:=x.peer.size<=1048576/\x.label.size<=1048576
def jl(w:World)(b o:Nat)(x:b8):Prop:=w.cell? ⟨b,o,none⟩=some (.int .i64 x.kind)/\w.cell? ⟨b,o+1,none⟩=some (.string x.peer)/\w.cell? ⟨b,o+2,none⟩=some (.string x.label)/\w.cell? ⟨b,o+3,none⟩=some (.int .i64 x.sort)
def iY(w:World)(b:Nat):Nat->List b8->Prop|_,[]=>True|o,x::l=>jl w b o x/\iY w b (o+4) l
theorem jl.carry{w w':World}{b o:Nat}{x:b8}(h:jl w b o x){B:Nat}(j:b<B)(l:Below B w w'):jl w' b o x:=by obtain⟨C,I,J,P⟩:=h;exact⟨(l.cell (p:=⟨b,_,none⟩) j).trans C,(l.cell (p:=⟨b,_,none⟩) j).trans I,(l.cell (p:=⟨b,_,none⟩) j).trans J,(l.cell (p:=⟨b,_,none⟩) j).trans P⟩
theorem jl.lt{w:World}{b o:Nat}{x:b8}(h:jl w b o x):b<w.heap.size:=World.block_lt_of_cell? w _ h.1
theorem iY.carry{w w':World}{b B:Nat}(j:b<B)(C:Below B w w'):∀{l:List b8}{o:Nat},iY w b o l->iY w' b o l|[],_,_=>trivial|_::_,_,h=>⟨h.1.carry j C,iY.carry j C h.2⟩
theorem iY.get{w:World}{b:Nat}:∀{l:List b8}{o:Nat},iY w b o l->∀i(h:i<l.length),jl w b (o+i*4) l[i]|_::_,_,h,0,_=>by simpa using h.1|_::l,o,h,i+1,hi=>by have:=h.2.get i (by simpa using hi);rw[show o+4+i*4=o+(i+1)*4 from by omega]at this;simpa using this
theorem iY.of(w:World)(g:Nat):∀(l:List b8)(o:Nat),(∀j(h:j<l.length),jl w g (o+j*4) l[j])->iY w g o l|[],_,_=>trivial|x::l,o,h=>⟨by have:=h 0 (by simp);simpa only[Nat.zero_mul,Nat.add_zero,List.getElem_cons_zero]using this,iY.of w g l (o+4) (fun j C=>by have:=h (j+1) (by simpa using C);rw[show o+(j+1)*4=o+4+j*4 from by omega]at this;simpa only[List.getElem_cons_succ]using this)⟩
def eP(w:World)(B:Nat)(v:Value)(l:List b8):Prop:=∃j cap,v=.slice j l.length cap/\l.length<=cap/\l.length<=4294967296/\(l≠[]->∃b o,j=some ⟨b,o,none⟩/\b<B/\iY w b o l)
theorem eP.carry{w w':World}{B:Nat}{v:Value}{l:List b8}(h:eP w B v l)(U:Below B w w'):eP w' B v l:=by obtain⟨I,cap,J,P,R,T⟩:=h;refine⟨I,cap,J,P,R,fun C=>?_⟩;obtain⟨b,o,e,j,hr⟩:=T C;exact⟨b,o,e,j,hr.carry j U⟩
theorem eP.up{w:World}{B C:Nat}{v:Value}{l:List b8}(h:eP w B v l)(hB:B<=C):eP w C v l:=by obtain⟨I,cap,J,P,R,T⟩:=h;refine⟨I,cap,J,P,R,fun j=>?_⟩;obtain⟨b,o,e,U,hr⟩:=T j;exact⟨b,o,e,by omega,hr⟩
theorem jl.block{w w':World}{b o:Nat}{x:b8}(h:jl w b o x)(j:w'.heap[b]?=w.heap[b]?):jl w' b o x:=by obtain⟨l,C,I,J⟩:=h;exact⟨(World.cell?_of_block (a:=⟨b,_,none⟩) j).trans l,(World.cell?_of_block (a:=⟨b,_,none⟩) j).trans C,(World.cell?_of_block (a:=⟨b,_,none⟩) j).trans I,(World.cell?_of_block (a:=⟨b,_,none⟩) j).trans J⟩
theorem iY.block{w w':World}{b:Nat}(j:w'.heap[b]?=w.heap[b]?):∀{l:List b8}{o:Nat},iY w b o l->iY w' b o l|[],_,_=>trivial|_::_,_,h=>⟨h.1.block j,iY.block j h.2⟩
theorem eP.aA{w w':World}{B I:Nat}{v:Value}{l:List b8}(h:eP w B v l)(hB:B<=I)(U:∀b,v.ownBlock=some b->b<B->w'.heap[b]?=w.heap[b]?):eP w' I v l:=by obtain⟨J,cap,rfl,P,R,T⟩:=h;refine⟨J,cap,rfl,P,R,fun C=>?_⟩;obtain⟨b,o,rfl,j,hr⟩:=T C;exact⟨b,o,rfl,by omega,hr.block (U b rfl j)⟩
theorem eP.iF{w:World}{B:Nat}{v:Value}{l:List b8}(h:eP w B v l):l.length<=4294967296:=by obtain⟨j,cap,_,C,I,_⟩:=h;omega
theorem IJ(x:b8)(w:World):Calls Tryz.prog 143 #[x.val,x.val] w fun e w'=>e=.returned (.bool true)/\ZW w w':=by unfold b8.val;go_in;go_wp2;go_ret;exact⟨rfl,(ag _ _).trans ((ag _ _).mono (by simp))⟩
structure ba where
 role:ByteArray
 kind:Int
 peer:ByteArray
 label:ByteArray
 sort:Int
def ba.val(x:ba):Value:=.agg #[.string x.role,.int .i64 x.kind,.string x.peer,.string x.label,.int .i64 x.sort]
def ba.ok(x:ba):Prop:=x.role.size<=maxLen/\x.peer.size<=maxLen/\x.label.size<=maxLen
def ba.fit(x:ba):Prop:=x.role.size<=1048576/\x.peer.size<=1048576/\x.label.size<=1048576
def dN(w:World)(b o:Nat)(x:ba):Prop:=w.cell? ⟨b,o,none⟩=some (.string x.role)/\w.cell? ⟨b,o+1,none⟩=some (.int .i64 x.kind)/\w.cell? ⟨b,o+2,none⟩=some (.string x.peer)/\w.cell? ⟨b,o+3,none⟩=some (.string x.label)/\w.cell? ⟨b,o+4,none⟩=some (.int .i64 x.sort)
def eB(w:World)(b:Nat):Nat->List ba->Prop|_,[]=>True|o,x::l=>dN w b o x/\eB w b (o+5) l
theorem dN.carry{w w':World}{b o:Nat}{x:ba}(h:dN w b o x){B:Nat}(j:b<B)(l:Below B w w'):dN w' b o x:=by obtain⟨C,I,J,P,R⟩:=h;exact⟨(l.cell (p:=⟨b,_,none⟩) j).trans C,(l.cell (p:=⟨b,_,none⟩) j).trans I,(l.cell (p:=⟨b,_,none⟩) j).trans J,(l.cell (p:=⟨b,_,none⟩) j).trans P,(l.cell (p:=⟨b,_,none⟩) j).trans R⟩
theorem dN.lt{w:World}{b o:Nat}{x:ba}(h:dN w b o x):b<w.heap.size:=World.block_lt_of_cell? w _ h.1
theorem eB.carry{w w':World}{b B:Nat}(j:b<B)(C:Below B w w'):∀{l:List ba}{o:Nat},eB w b o l->eB w' b o l|[],_,_=>trivial|_::_,_,h=>⟨h.1.carry j C,eB.carry j C h.2⟩
theorem eB.get{w:World}{b:Nat}:∀{l:List ba}{o:Nat},eB w b o l->∀i(h:i<l.length),dN w b (o+i*5) l[i]|_::_,_,h,0,_=>by simpa using h.1|_::l,o,h,i+1,hi=>by have:=h.2.get i (by simpa using hi);rw[show o+5+i*5=o+(i+1)*5 from by omega]at this;simpa using this
theorem eB.of(w:World)(g:Nat):∀(l:List ba)(o:Nat),(∀j(h:j<l.length),dN w g (o+j*5) l[j])->eB w g o l|[],_,_=>trivial|x::l,o,h=>⟨by have:=h 0 (by simp);simpa only[Nat.zero_mul,Nat.add_zero,List.getElem_cons_zero]using this,eB.of w g l (o+5) (fun j C=>by have:=h (j+1) (by simpa using C);rw[show o+(j+1)*5=o+5+j*5 from by omega]at this;simpa only[List.getElem_cons_succ]using this)⟩
def dm(w:World)(B:Nat)(v:Value)(l:List ba):Prop:=∃j cap,v=.slice j l.length cap/\l.length<=cap/\l.length<=4294967296/\(l≠[]->∃b o,j=some ⟨b,o,none⟩/\b<B/\eB w b o l)
theorem dm.carry{w w':World}{B:Nat}{v:Value}{l:List ba}(h:dm w B v l)(U:Below B w w'):dm w' B v l:=by obtain⟨I,cap,J,P,R,T⟩:=h;refine⟨I,cap,J,P,R,fun C=>?_⟩;obtain⟨b,o,e,j,hr⟩:=T C;exact⟨b,o,e,j,hr.carry j U⟩
theorem dm.up{w:World}{B C:Nat}{v:Value}{l:List ba}(h:dm w B v l)(hB:B<=C):dm w C v l:=by obtain⟨I,cap,J,P,R,T⟩:=h;refine⟨I,cap,J,P,R,fun j=>?_⟩;obtain⟨b,o,e,U,hr⟩:=T j;exact⟨b,o,e,by omega,hr⟩
theorem dN.block{w w':World}{b o:Nat}{x:ba}(h:dN w b o x)(j:w'.heap[b]?=w.heap[b]?):dN w' b o x:=by obtain⟨l,C,I,J,P⟩:=h;exact⟨(World.cell?_of_block (a:=⟨b,_,none⟩) j).trans l,(World.cell?_of_block (a:=⟨b,_,none⟩) j).trans C,(World.cell?_of_block (a:=⟨b,_,none⟩) j).trans I,(World.cell?_of_block (a:=⟨b,_,none⟩) j).trans J,(World.cell?_of_block (a:=⟨b,_,none⟩) j).trans P⟩
theorem eB.block{w w':World}{b:Nat}(j:w'.heap[b]?=w.heap[b]?):∀{l:List ba}{o:Nat},eB w b o l->eB w' b o l|[],_,_=>trivial|_::_,_,h=>⟨h.1.block j,eB.block j h.2⟩
theorem dm.aA{w w':World}{B I:Nat}{v:Value}{l:List ba}(h:dm w B v l)(hB:B<=I)(U:∀b,v.ownBlock=some b->b<B->w'.heap[b]?=w.heap[b]?):dm w' I v l:=by obtain⟨J,cap,rfl,P,R,T⟩:=h;refine⟨J,cap,rfl,P,R,fun C=>?_⟩;obtain⟨b,o,rfl,j,hr⟩:=T C;exact⟨b,o,rfl,by omega,hr.block (U b rfl j)⟩
theorem dm.iF{w:World}{B:Nat}{v:Value}{l:List ba}(h:dm w B v l):l.length<=4294967296:=by obtain⟨j,cap,_,C,I,_⟩:=h;omega
theorem Tryz.yJ:(Tryz.prog.info? 115).map (fun i=>(i.zero,i.size,i.bytes))=some (some (.agg #[.string .empty,.int .i64 0,.string .empty,.string .empty,.int .i64 0]),5,64):=by kernel_rfl
theorem Dq(x:ba)(w:World):Calls Tryz.prog 119 #[x.val,x.val] w fun e w'=>e=.returned (.bool true)/\ZW w w':=by unfold ba.val;go_in;go_wp2_with(go_at_call 143;refine(IJ ⟨x.kind,x.peer,x.label,x.sort⟩ _).mono ?_;rintro e C⟨rfl,j⟩;have l:=aa j;clear j);go_ret;exact⟨rfl,((ag _ _).trans ((ag _ _).mono (by simp))).trans (l.out.mono (by simp;omega))⟩
theorem Bt(l:List ba)(v u:Value)(w:World)(hv:dm w w.heap.size v l)(hu:dm w w.heap.size u l):Calls Tryz.prog 60 #[v,u] w fun e w'=>e=.returned (.bool true)/\ZW w w':=by
 obtain⟨ao,cap,rfl,hc,hm,hr⟩:=hv;obtain⟨av,aq,rfl,ax,ay,af⟩:=hu;have HR:=aa hr;have al:=aa af;clear hr af;go_in;go_wp2;go_loopw[5](fun i wr=>∃k:Nat,k<=l.length/\i=.int .i64 k/\ZW w wr)(fun i _=>l.length-(intOf i).toNat);case atStart=>exact⟨0,Nat.zero_le _,rfl,Below.refl _ _⟩
 case round=>
  obtain⟨k,hk,rfl,I⟩:=hrel;have j:=aa I;have R:=I.size;clear I;by_cases T:k<l.length;·
   obtain⟨b,o,rfl,an,U⟩:=HR.out (by intro h;simp[h]at T);obtain⟨b',o',rfl,ad,P⟩:=al.out (by intro h;simp[h]at T);have J:=(U.get k T).carry an j.out;have C:=(P.get k T).carry ad j.out;obtain⟨x1,ah⟩:∃x1,x1=l[k]:=⟨_,rfl⟩;rw[<-ah]at J C;clear ah U P;obtain⟨c0,c1,c2,c3,c4⟩:=J;obtain⟨d0,d1,d2,d3,d4⟩:=C;go_wp2;go_region_with(go_at_call 119;refine(Dq x1 _).mono ?_;rintro e w1⟨rfl,ac⟩;have ab:=aa ac;clear ac);go_wp2;all_goals
    go_roundw;case rel=>exact⟨k+1,by omega,by go_num,by first|exact j.out.trans (ab.out.mono R)|exact j.out.drew.trans (ab.out.mono R)|exact j.out.drew.drew.trans (ab.out.mono R)⟩
    case measure=>simp[intOf];omega
  ·go_wp2;go_ret;exact⟨rfl,j.out⟩
theorem eP.sep{w w':World}{v:Value}{x:List b8}{l:List Nat}(h:eP w w.heap.size v x)(C:aH w w' l)(hd:∀b∈ae v,b∉l):eP w' w'.heap.size v x:=by have H:=h;obtain⟨J,P,rfl,_⟩:=h;exact H.aA C.size (fun b I j=>C.block b j (hd b ((aS rfl).1 I)))
theorem eP.tJ{w w':World}{v:Value}{x:List b8}{l:List Nat}(h:eP w w.heap.size v x)(C:aH w w' l)(hd:∀b∈l,w.heap.size<=b):eP w' w'.heap.size v x:=by have H:=h;obtain⟨J,P,rfl,_⟩:=h;exact H.aA C.size (fun b R j=>C.block b j (fun I=>absurd (hd b I) (by omega)))
theorem eP.shape{w:World}{B:Nat}{v:Value}{x:List b8}(h:eP w B v x):∃p c,v=.slice p x.length c:=by obtain⟨j,l,e,_⟩:=h;exact⟨j,l,e⟩
section
open Go.RowKit Go.Maps
def kA(f:Int)(a:b8):Value:=.agg #[.int .i64 f,.int .i64 a.kind,.string a.peer,.string a.label,.int .i64 a.sort]
def rN(z:Int):Prop:=-9223372036854775808<=z/\z<=9223372036854775807
def b8.Fx(a:b8):Prop:=rN a.kind/\rN a.sort
theorem uR{z:Int}(h:rN z):(Lit.int .i64 z).wf=true:=by simp[Lit.wf,IntKind.min,IntKind.max,IntKind.signed,IntKind.bits];exact h
theorem Tryz.DT:laidOutB Tryz.prog=true:=by kernel_rfl
theorem Tryz.He:(316:TypeId)<Tryz.prog.types.size:=of_decide_eq_true (by kernel_rfl)
theorem Tryz.uD:Tryz.prog.cellsOf 316=5:=by kernel_rfl
theorem Tryz.CQ:Tryz.prog.cellsOf 104=4:=by kernel_rfl
theorem Tryz.DD:Tryz.prog.cellsOf 2=1:=by kernel_rfl
theorem Tryz.strCells:Tryz.prog.cellsOf 9=1:=by kernel_rfl
theorem Tryz.Fe:Tryz.prog.keyType 316=true:=by kernel_rfl
theorem jA:Keyed Tryz.prog 316:=Keyed.of_law (deep_law_laid Tryz.DT (m:=4) (by omega) Tryz.He (by kernel_rfl) (by kernel_rfl))
theorem Tryz.Fg:2<Tryz.prog.types.size:=of_decide_eq_true (by kernel_rfl)
theorem Tryz.CD:∃d,Tryz.prog.types.size+1=d+3:=by have h:=Tryz.Fg;generalize Tryz.prog.types.size=n at h;exact⟨n-2,by omega⟩
theorem x9(f:Int)(a:b8)(R:rN f)(C:a.Fx)(l:a.ok):∃T,keyOf Tryz.prog 316 (kA f a)=some T:=by
 obtain⟨d,hd⟩:=Tryz.CD;have I:=uR R;have J:=uR C.1;have P:=uR C.2;have j:(kA f a).formed Tryz.prog 316=true:=by simp[Value.formed,kA,Tryz.underlying316,Tryz.uD]
 unfold keyOf;rw[Tryz.underlying316];simp only[];rw[if_pos (by rw[Tryz.Fe,j];rfl),hd];simp+decide[Program.keyLits,kA,Value.cells,Tryz.underlying316,Tryz.underlying2,Tryz.underlying104,Tryz.underlying9,Tryz.uD,Tryz.CQ,Tryz.DD,Tryz.strCells,I,J,P,l.1,l.2]
end
section
open Go.RowKit Go.ChangeShapes Go.WideShapes
theorem Tryz.Ht:Tryz.prog.cellsOf 141=4:=by kernel_rfl
theorem xD{H:Type}{enc:TypeId×Value->H}{w:World}{base fuel:Nat}{spare:Nat->Bool}{held:Bool}{cs:List Value}{x:DataW H×List MemPlace}(h:DataW.trod enc Tryz.prog w base spare held fuel 141 cs=some x):∃n:aF,n.ok/\cs[0]?=some (.string n.cD)/\cs[1]?=some (.string n.to)/\cs[2]?=some (.string n.label)/\cs[3]?=some (.int .i64 n.sort):=by obtain⟨J,n,_,_,hl,j,l⟩:=DataW.trod_struct Tryz.underlying141 h;have C:J.length=4:=j;match J,C with|[y0,y1,y2,y3],_=>have I:DataW.trod enc Tryz.prog w base spare held n 9 ((cs.drop 0).take (Tryz.prog.cellsOf 9))=some y0:=l 0 _ rfl;have g1:DataW.trod enc Tryz.prog w base spare held n 9 ((cs.drop 1).take (Tryz.prog.cellsOf 9))=some y1:=l 1 _ rfl;have g2:DataW.trod enc Tryz.prog w base spare held n 9 ((cs.drop 2).take (Tryz.prog.cellsOf 9))=some y2:=l 2 _ rfl;have g3:DataW.trod enc Tryz.prog w base spare held n 2 ((cs.drop 3).take (Tryz.prog.cellsOf 2))=some y3:=l 3 _ rfl;rw[Tryz.Ku]at g3;rw[Tryz.KS]at I g1 g2;obtain⟨z0,P,_,k0⟩:=DataW.trod_string Tryz.underlying9 I;obtain⟨z1,R,_,k1⟩:=DataW.trod_string Tryz.underlying9 g1;obtain⟨z2,T,_,k2⟩:=DataW.trod_string Tryz.underlying9 g2;obtain⟨z3,U,_⟩:=DataW.trod_int Tryz.underlying2 g3;exact⟨⟨z0,z1,z2,z3⟩,⟨k0,k1,k2⟩,oD P,oD R,oD T,oD U⟩
theorem B7{H:Type}{enc:TypeId×Value->H}{w:World}{base fuel l P:Nat}{spare:Nat->Bool}{held:Bool}{a0:Option Addr}{x:DataW H×List MemPlace}(h:DataW.trod enc Tryz.prog w base spare held fuel 24 [.slice a0 l P]=some x):∃ns:List aF,ns.length=l/\(∀n∈ns,n.ok)/\ns.length<=maxLen/\(ns≠[]->∃b o,a0=some ⟨b,o,none⟩/\b<w.heap.size/\dE w b o ns):=by
 rcases Go.Deep.open_slice Tryz.underlying24 h with⟨R,_⟩|⟨a,len,cap,m,n,D,Pl,U,hb,hl,hm,an,hx,ab⟩;·simp at R;obtain⟨rfl,rfl,rfl⟩:=R;exact⟨[],rfl,by simp,Nat.zero_le _,fun h=>absurd rfl h⟩
 ·simp at U;obtain⟨rfl,rfl,rfl⟩:=U;have av:l<=m:=by rw[an];split<;>omega
  have each:∀i,i<l->∃nd:aF,nd.ok/\∀b o,a=⟨b,o,none⟩->dU w b (o+i*4) nd:=by
   intro i hi;obtain⟨ah,T,h2⟩:=ab i (by omega);rw[Tryz.Ht]at T;obtain⟨_,ac,C⟩:=World.cells?_some T;obtain⟨nd,ad,e0,e1,e2,e3⟩:=xD h2;refine⟨nd,ad,fun b o al=>?_⟩;subst al;have pl:∀j,((⟨b,o,none⟩:Addr).add (i*4)).add j=⟨b,o+i*4+j,none⟩:=fun j=>by rw[Go.Deep.add_add];unfold Addr.add;split<;>simp_all<;>omega
   refine⟨?_,?_,?_,?_⟩;·have:=C 0 (by omega);rw[pl,e0]at this;exact this
   ·have:=C 1 (by omega);rw[pl,e1]at this;exact this
   ·have:=C 2 (by omega);rw[pl,e2]at this;exact this
   ·have:=C 3 (by omega);rw[pl,e3]at this;exact this
  have:Inhabited aF:=⟨⟨ByteArray.empty,ByteArray.empty,ByteArray.empty,0⟩⟩;obtain⟨q,hq⟩:=Go.Deep.choose_lt each;refine⟨(List.range l).map q,by simp,?_,by simp;omega,fun ao=>?_⟩;·intro x hx;obtain⟨i,hi,rfl⟩:=List.mem_map.1 hx;exact(hq i (List.mem_range.1 hi)).1
  ·have I:0<l:=by
    rcases Nat.eq_zero_or_pos l with h|h;·subst h;simp at ao
    ·exact h
   obtain⟨b,o,s⟩:=a;have aq:∀i,i<l->((Addr.add ⟨b,o,s⟩ (i*4)).add 0).spot=none:=by intro i hi;obtain⟨ah,T,h2⟩:=ab i (by omega);rw[Tryz.Ht]at T;obtain⟨_,ac,C⟩:=World.cells?_some T;obtain⟨nd,ad,e0,_⟩:=xD h2;have R:=C 0 (by omega);rw[e0]at R;exact World.cell?_spot R
   have J:s=none:=by simpa[Addr.add]using aq 0 I
   subst J;have af:dE w b o ((List.range l).map q):=dE.of w b _ o (fun j hj=>by simp only[List.getElem_map,List.getElem_range];exact(hq j (by simpa using hj)).2 b o rfl);refine⟨b,o,rfl,?_,af⟩;have:=(hq 0 I).2 b o rfl;exact this.lt
end
section
open Go.RowKit Go.ChangeShapes
theorem Tryz.z6:Tryz.prog.globalNamed "loop.example/g00574/impl.errNothing"=some 3:=by kernel_rfl
theorem Tryz.z7:Tryz.prog.globalNamed "loop.example/g00574/impl.errTooLong"=some 0:=by kernel_rfl
theorem Tryz.z8:Tryz.prog.globalNamed "loop.example/g00574/impl.errNotRight"=some 1:=by kernel_rfl
theorem Tryz.Aa:Tryz.prog.globalNamed "loop.example/g00574/impl.errNoRoom"=some 2:=by kernel_rfl
theorem Tryz.IQ:(Tryz.prog.globals[3]?).map (·.type)=some 256:=by kernel_rfl
theorem Tryz.IU:(Tryz.prog.globals[0]?).map (·.type)=some 256:=by kernel_rfl
theorem Tryz.IV:(Tryz.prog.globals[1]?).map (·.type)=some 256:=by kernel_rfl
theorem Tryz.IW:(Tryz.prog.globals[2]?).map (·.type)=some 256:=by kernel_rfl
theorem Tryz.tI:Tryz.prog.cellsOf 424=1:=by kernel_rfl
theorem Tryz.uA:Tryz.prog.cellsOf 9=1:=by kernel_rfl
theorem Tryz.Ig: "*"++ "errors.errorString"= "*errors.errorString":=by decide
theorem Tryz.zW(u:TypeId)(h:Tryz.prog.typeName? 3 u=some "*errors.errorString"):u=398:=typeName_ptr_named (nm:= "errors.errorString") (by rw[Tryz.Ig];kernel_rfl) (by kernel_rfl) (by decide) u (by rw[Tryz.Ig];exact h)
theorem kG{W:World}{a b:Addr}{s t:ByteArray}{x y:List UInt8}(C:W.cell? a=some (.string s))(j:W.cell? b=some (.string t))(I:s.data.toList=x)(J:t.data.toList=y)(l:x≠y):a≠b:=by rintro rfl;rw[C]at j;injection j with j;injection j with j;exact l (by rw[<-I,<-J,j])
theorem vq{W:World}(h:laidMet Tryz.prog [("loop.example/g00574/impl.errTooLong",Rows.laid_loop_example_g00574_impl_errTooLong),("loop.example/g00574/impl.errNotRight",Rows.laid_loop_example_g00574_impl_errNotRight),("loop.example/g00574/impl.errNothing",Rows.laid_loop_example_g00574_impl_errNothing),("loop.example/g00574/impl.errNoRoom",Rows.laid_loop_example_g00574_impl_errNoRoom)] W):∃E,dS W E:=by
 have h2:=h.tail.tail;unfold Rows.laid_loop_example_g00574_impl_errTooLong Rows.laid_loop_example_g00574_impl_errNotRight at h;unfold Rows.laid_loop_example_g00574_impl_errNothing Rows.laid_loop_example_g00574_impl_errNoRoom at h2;obtain⟨aL,aR,sL,sR,cL,cR,tL,tR,vL,vR,j,J,-,I,T,-,U,bL,bR⟩:=laid_sentinels2 h Tryz.z7 Tryz.IU Tryz.z8 Tryz.IV Tryz.underlying256 Tryz.zW Tryz.underlying398 Tryz.underlying424 rfl rfl Tryz.underlying9 Tryz.tI Tryz.uA;obtain⟨aN,aM,sN,sM,cN,cM,tN,tM,vN,vM,C,R,-,l,P,-,ab,bN,bM⟩:=laid_sentinels2 h2 Tryz.z6 Tryz.IQ Tryz.Aa Tryz.IW Tryz.underlying256 Tryz.zW Tryz.underlying398 Tryz.underlying424 rfl rfl Tryz.underlying9 Tryz.tI Tryz.uA;refine⟨⟨aN,aL,aR,aM⟩,?_,?_,?_,?_,⟨_,_,bN⟩,⟨_,_,bL⟩,⟨_,_,bR⟩,⟨_,_,bM⟩,?_,?_,ab,U,?_,?_⟩;·simpa using World.var?_cell Tryz.z6 vN 0
 ·simpa using World.var?_cell Tryz.z7 vL 0
 ·simpa using World.var?_cell Tryz.z8 vR 0
 ·simpa using World.var?_cell Tryz.Aa vM 0
 ·exact kG C j R J (by decide)
 ·exact kG C I R T (by decide)
 ·exact kG j l J P (by decide)
 ·exact kG I l T P (by decide)
theorem CG{H:Type}{enc:TypeId×Value->H}{P:Program}{w:World}{spare:Nat->Bool}{a b c d:String}{j:List (DataW H)}{ps:List MemPlace}(h:DataW.TrodVars enc P w spare [a,b,c,d] j ps):∃g1 g2 g3 g4,j=[g1,g2,g3,g4]:=by cases j with|nil=>exact h.elim|cons g1 j=>obtain⟨_,_,_,_,_,_,_,_,_,_,h,_⟩:=h;cases j with|nil=>exact h.elim|cons g2 j=>obtain⟨_,_,_,_,_,_,_,_,_,_,h,_⟩:=h;obtain⟨_,_,_,_,g3,_,_,_,_,_,g4,_,rfl,_⟩:=trodVars_two h;exact⟨g1,g2,g3,g4,rfl⟩
end
section
open Go.RowKit Go.ChangeShapes Go.WideShapes
theorem x8(l:List Int)(ao:Option Addr)(cap:Nat)(w:World)(hl:l.length<=1048576)(hr:l≠[]->∃b o,ao=some ⟨b,o,none⟩/\b<w.heap.size/\rf w b o l):Calls Tryz.prog 25 #[.slice ao l.length cap] w fun e w'=>∃v',e=.returned v'/\di w' w'.heap.size v' l/\nQ w.heap.size w' v'/\ZW w w'/\∃g c,v'=.slice (some ⟨g,0,none⟩) l.length c:=by
 have HR:=aa hr;obtain⟨i0,hi,aq,av,ax⟩:=info_parts Tryz.qO;obtain⟨M,hM⟩:∃M,M=madeCells (Value.int .i64 0).cells (l.length*1):=⟨_,rfl⟩;have an:M.size=l.length*1:=by rw[hM,size_madeCells]
 have aN:∀W:World,(Instr.makeSlice 23 (.int .i64 (l.length:Int)) (.int .i64 (l.length:Int))).run Tryz.prog W=.ok (.slice (some ⟨W.heap.size,0,none⟩) l.length l.length) (W.alloc (.cells M 2)):=fun W=>by have h:=run_make (P:=Tryz.prog) W 23 2 i0 _ Tryz.underlying23 hi aq .i64 .i64 (l.length:Int) (l.length:Int) (by omega) (by omega) (by rw[ax];omega) (by omega);rw[av]at h;simp only[Int.toNat_natCast]at h;rw[<-hM]at h;exact h
 have ay:=aa an;clear hr hM an hi aq av ax;go_in;go_wp2;go_loopw[4](fun i wr=>∃k:Nat,k<=l.length/\i=.int .i64 k/\(∀j(h:j<l.length),j<k->wr.cell? ⟨w.heap.size,j,none⟩=some (.int .i64 l[j]))/\(∀j,j<l.length->∃y,wr.cell? ⟨w.heap.size,j,none⟩=some y)/\(∀j,wr.frozen? ⟨w.heap.size,j,none⟩=false)/\w.heap.size<wr.heap.size/\ZW w wr)(fun i _=>l.length-(intOf i).toNat);case atStart=>
  refine⟨0,Nat.zero_le _,rfl,fun j _ h=>absurd h (by omega),fun j hj=>?_,fun j=>?_,by simp,ag _ _⟩;·
   have aL:j<M.size:=by rw[ay.out];omega
   exact⟨M[j],by simp[aL]⟩
  ·simp
 case round=>
  obtain⟨k,hk,rfl,T,C,J,af,U⟩:=hrel;have HA:=aa T;have HC:=aa C;have al:=aa J;have I:=aa U;clear T U;by_cases ac:k<l.length;·
   obtain⟨b,o,rfl,az,ab⟩:=HR.out (by intro h;simp[h]at ac);have ad:=(ab.carry az I.out) k ac;obtain⟨x1,ah⟩:∃x1,x1=l[k]:=⟨_,rfl⟩;rw[<-ah]at ad;have HN:=aa ah;clear ah ab;obtain⟨y0,g0⟩:=C k ac;have f0:=J k;clear C J;go_wp2;all_goals
    go_roundw;case rel=>
     refine⟨k+1,by omega,by go_num,fun j hj aM=>?_,fun j hj=>?_,fun j=>?_,?_,?_⟩;·
      by_cases R:j=k;·subst R;rw[<-HN.out];exact World.cell?_setCell_same _ _ _ g0
      ·rw[World.cell?_setCell_other _ _ _ _ (by intro e;injection e with _ e2;omega)];exact HA.out j hj (by omega)
     ·by_cases R:j=k;·subst R;exact⟨_,World.cell?_setCell_same _ _ _ g0⟩
      ·obtain⟨y,hy⟩:=HC.out j hj;exact⟨y,by rw[World.cell?_setCell_other _ _ _ _ (by intro e;injection e with _ e2;omega)];exact hy⟩
     ·rw[World.frozen?_setCell];exact al.out j
     ·rw[World.size_setCell];exact af
     ·first|exact I.out.setCell (p:=⟨w.heap.size,k,none⟩) (Nat.le_refl _) _|exact I.out.drew.setCell (p:=⟨w.heap.size,k,none⟩) (Nat.le_refl _) _
    case measure=>simp[intOf];omega
  ·go_wp2;go_ret;refine⟨_,rfl,⟨_,_,rfl,Nat.le_refl _,by omega,fun aR=>⟨w.heap.size,0,rfl,af,fun j hj=>?_⟩⟩,⟨fun b hb=>by simp[Value.ownBlock]at hb;subst hb;exact⟨Nat.le_refl _,af,al.out⟩⟩,I.out,_,_,rfl⟩;rw[Nat.zero_add];exact HA.out j hj (by omega)
theorem qW(l:List Int)(C:Option Addr)(cap:Nat)(w:World)(T:l.length<=1048576)(U:l≠[]->∃b o,C=some ⟨b,o,none⟩/\b<w.heap.size/\rf w b o l):Calls Tryz.prog 25 #[.slice C l.length cap] w fun e w'=>∃j,e=.returned j/\di w' w'.heap.size j l/\nQ w.heap.size w' j/\ZW w w':=(x8 l C cap w T U).mono fun _ _⟨j,I,J,P,R,_⟩=>⟨j,I,J,P,R⟩
theorem zV(l:List Int)(v u:Value)(w:World)(hv:di w w.heap.size v l)(hu:di w w.heap.size u l):Calls Tryz.prog 27 #[v,u] w fun e w'=>e=.returned (.bool true)/\ZW w w':=by
 obtain⟨ao,cap,rfl,hc,hm,hr⟩:=hv;obtain⟨ah,ad,rfl,al,an,T⟩:=hu;have HR:=aa hr;have ab:=aa T;clear hr T;go_in;go_wp2;go_loopw[5](fun i wr=>∃k:Nat,k<=l.length/\i=.int .i64 k/\ZW w wr)(fun i _=>l.length-(intOf i).toNat);case atStart=>exact⟨0,Nat.zero_le _,rfl,Below.refl _ _⟩
 case round=>
  obtain⟨k,hk,rfl,C⟩:=hrel;have j:=aa C;have af:=C.size;clear C;by_cases J:k<l.length;·
   obtain⟨b,o,rfl,ac,P⟩:=HR.out (by intro h;simp[h]at J);obtain⟨b',o',rfl,R,I⟩:=ab.out (by intro h;simp[h]at J);have c0:=(P.carry ac j.out) k J;have d0:=(I.carry R j.out) k J;obtain⟨x1,U⟩:∃x1,x1=l[k]:=⟨_,rfl⟩;rw[<-U]at c0 d0;clear U P I;go_wp2;go_region;go_wp2;all_goals
    go_roundw;case rel=>exact⟨k+1,by omega,by go_num,by first|exact j.out|exact j.out.drew|exact j.out.drew.drew⟩
    case measure=>simp[intOf];omega
  ·go_wp2;go_ret;exact⟨rfl,j.out⟩
theorem ug{H:Type}{enc:TypeId×Value->H}{w:World}{base fuel l P:Nat}{spare:Nat->Bool}{held:Bool}{a0:Option Addr}{x:DataW H×List MemPlace}(h:DataW.trod enc Tryz.prog w base spare held fuel 23 [.slice a0 l P]=some x):∃ns:List Int,ns.length=l/\(∀z∈ns,-9223372036854775808<=z/\z<=9223372036854775807)/\ns.length<=maxLen/\(ns≠[]->∃b o,a0=some ⟨b,o,none⟩/\b<w.heap.size/\rf w b o ns):=by
 rcases Go.Deep.open_slice Tryz.underlying23 h with⟨I,_⟩|⟨a,len,cap,m,n,D,Pl,T,hb,hl,hm,al,hx,U⟩;·simp at I;obtain⟨rfl,rfl,rfl⟩:=I;exact⟨[],rfl,by simp,Nat.zero_le _,fun h=>absurd rfl h⟩
 ·simp at T;obtain⟨rfl,rfl,rfl⟩:=T;have ao:l<=m:=by rw[al];split<;>omega
  have each:∀i,i<l->∃z:Int,(-9223372036854775808<=z/\z<=9223372036854775807)/\∀b o,a=⟨b,o,none⟩->w.cell? ⟨b,o+i,none⟩=some (.int .i64 z):=by
   intro i hi;obtain⟨af,R,h2⟩:=U i (by omega);rw[Tryz.Ku]at R;obtain⟨_,ab,C⟩:=World.cells?_some R;obtain⟨z,e0,_,hw⟩:=DataW.trod_int Tryz.underlying2 h2;refine⟨z,by simp[Lit.wf,IntKind.min,IntKind.max,IntKind.signed,IntKind.bits]at hw;exact hw,fun b o ah=>?_⟩;subst ah;have pl:((⟨b,o,none⟩:Addr).add (i*1)).add 0=⟨b,o+i,none⟩:=by rw[Go.Deep.add_add];unfold Addr.add;split<;>simp_all
   have:=C 0 (by omega);rw[pl,e0]at this;exact this
  obtain⟨q,hq⟩:=Go.Deep.choose_lt each;refine⟨(List.range l).map q,by simp,?_,by simp;omega,fun an=>?_⟩;·intro x hx;obtain⟨i,hi,rfl⟩:=List.mem_map.1 hx;exact(hq i (List.mem_range.1 hi)).1
  ·have ac:0<l:=by
    rcases Nat.eq_zero_or_pos l with I|I;·subst I;simp at an
    ·exact I
   obtain⟨b,o,s⟩:=a;have J:s=none:=by obtain⟨af,R,h2⟩:=U 0 (by omega);rw[Tryz.Ku]at R;obtain⟨_,ab,C⟩:=World.cells?_some R;obtain⟨z,e0,_⟩:=DataW.trod_int Tryz.underlying2 h2;have I:=C 0 (by omega);rw[e0]at I;have:=World.cell?_spot I;simpa[Addr.add]using this
   subst J;have ad:rf w b o ((List.range l).map q):=fun j hj=>by simp only[List.getElem_map,List.getElem_range];exact(hq j (by simpa using hj)).2 b o rfl
   refine⟨b,o,rfl,?_,ad⟩;have:=(hq 0 ac).2 b o rfl;exact World.block_lt_of_cell? w _ this
end
theorem aG(w:World)(b o:Nat)(x:Value):aH w (w.setCell ⟨b,o,none⟩ x) [b]:=aH.setCell ⟨rfl,rfl,rfl,Nat.le_refl _,fun _ _ _=>rfl⟩ o x
theorem bH{w:World}{base j e size n:Nat}{v:Value}{I:List Value}(h:w.ownsRow base e size v n I)(P:j<=base):w.ownsRow j e size v n I:=by
 obtain⟨J,C⟩:=h;refine⟨J,?_⟩;rcases C with C|⟨g,cap,l,a,b,c⟩;·exact .inl C
 ·exact .inr ⟨g,cap,l,a,Nat.le_trans P b,c⟩
theorem gh{P:Program}{T:Array Oper}{o:Oper}{a:Act}{w:World}{K:Act->World->Prop}{Q:Exit->Act->World->Prop}{E:Prop}(hg:o.guard=none)(s x:Operand)(t:TypeId)(ac:o.op=Op.call {callee:=Callee.builtin Builtin.append,args:=#[s,x],argTypes:=#[t,t]})(base:Nat)(e:TypeId)(i:TypeInfo)(z:Value)(size bytes:Nat)(h1:P.underlying t=some (.slice e))(h2:P.info? e=some i)(h3:i.zero=some z)(h4:i.size=size)(h5:i.bytes=bytes)(h6:z.cells.size=size)(h7:0<size)(v:Value)(n:Nat)(xs:List Value)(hs:a.eval s=v)(J:w.ownsRow base e size v n xs)(U:Addr)(m c:Nat)(l:List Value)(hx:a.eval x=.slice (some U) m c)(hn:l.length=m*size)(hc:∀j u,l[j]?=some u->w.cell? (U.add j)=some u)(ab:∀u∈l,u.oneCell'=true)(b1:n+m<=maxLen)(b2:(n+m)*bytes<=140737488355328)(C:base<=w.heap.size)(hK:∀I w',w'.ownsRow base e size I (n+m) (xs++l)->w.grownBy w' v.ownBlock->(I.ownBlock=v.ownBlock\/I.ownBlock=some w.heap.size)->K (a.put o.dst I) w'):if Region.wanted o (yielded T a.tmps)=true then Oper.wp P o a w K Q else E:=by
 have hw:Region.wanted o (yielded T a.tmps)=true:=by simp[Region.wanted,hg]
 rw[if_pos hw];obtain⟨I,w',R,r1,r2,_,r3⟩:=run_append_own_at (P:=P) w base t o.type e i z size bytes h1 h2 h3 h4 h5 h6 h7 v n xs J U m c l hn hc ab b1 b2 C;unfold Oper.wp;simp[execOp,ac,resolve,invoke,builtin,hs,hx,R,Result.andThen];exact hK I w' r1 r2 r3
theorem aH.sub{w w':World}{l l':List Nat}(h:aH w w' l)(J:∀b∈l,b∈l'):aH w w' l':=⟨h.os,h.tape,h.output,h.size,fun b j I=>h.block b j (fun C=>I (J b C))⟩
structure aV(w:World)(b:Nat)(vs:List Value):Prop where
 cell:∀i v,vs[i]?=some v->w.cell? ⟨b,i,none⟩=some v
 fz:∀o,w.frozen? ⟨b,o,none⟩=false
 lt:b<w.heap.size
theorem aV.aA{w w':World}{b:Nat}{I:List Value}{l:List Nat}(h:aV w b I)(j:aH w w' l)(C:b∉l):aV w' b I:=⟨fun i v J=>j.ek (h.cell i v J) C,fun o=>j.og h.lt (h.fz o) C,Nat.lt_of_lt_of_le h.lt j.size⟩
theorem aV.set{w:World}{b:Nat}{l:List Value}(h:aV w b l)(k:Nat)(C:k<l.length)(y:Value):aV (w.setCell ⟨b,k,none⟩ y) b (l.set k y):=by
 refine⟨fun i v j=>?_,fun o=>(World.frozen?_setCell ..).trans (h.fz o),by rw[World.size_setCell];exact h.lt⟩;by_cases hi:k=i;·subst hi;rw[List.getElem?_set_self C]at j;injection j with j;subst j;exact World.cell?_setCell_same _ _ _ (h.cell k l[k] (by simp[C]))
 ·rw[List.getElem?_set_ne hi]at j;rw[World.cell?_setCell_other _ _ _ _ (by intro e;injection e with _ I;exact hi I)];exact h.cell i v j
theorem aV.new(w:World)(j:List Value)(T:TypeId):aV (w.alloc (.cells j.toArray T)) w.heap.size j:=by refine⟨fun i v I=>?_,fun o=>by simp,by simp⟩;obtain⟨l,C⟩:=List.getElem?_eq_some_iff.1 I;simp[l,C]
def eJ(k:Nat):ba:=⟨fL (k+0),((k+1:Nat):Int),fL (k+2),fL (k+3),((k+4:Nat):Int)⟩
def dq(k n:Nat):List ba:=(List.range n).map fun i=>eJ (k+i*5)
theorem eu(k n:Nat):(dq k n).length=n:=by simp[dq]
theorem lj(k n i:Nat)(h:i<(dq k n).length):(dq k n)[i]=eJ (k+i*5):=by simp[dq]
theorem xi(k0:Nat)(ns:List ba)(v:Value)(w:World)(B:Nat)(h1:1<=k0)(hk:k0+ns.length*5<=5900000)(hv:dm w w.heap.size v ns)(aR:nQ B w v):Calls Tryz.prog 65 #[v,.int .i64 k0] w fun e w'=>e=.returned (.int .i64 ((k0+ns.length*5:Nat):Int))/\dm w' w'.heap.size v (dq k0 ns.length)/\w.grownBy w' v.ownBlock:=by
 obtain⟨ao,cap,rfl,hc,hm,hr⟩:=hv;have HR:=aa hr;have HO:=aa aR;obtain⟨n,hn⟩:∃n,ns.length=n:=⟨_,rfl⟩;rw[hn]at hc hk hm|-;have HN:=aa hn;clear hr aR hn;by_cases bz:n=0;·
  subst bz;go_in;go_wp2;go_loopw[1,5](fun kv i wr=>i=.int .i64 0/\kv=.int .i64 (k0:Int)/\wr=w)(fun _ _ _=>0);case atStart=>exact⟨rfl,rfl,rfl⟩
  case round=>obtain⟨rfl,rfl,rfl⟩:=hrel;go_wp2;go_ret;exact⟨bc rfl,⟨_,_,rfl,by simp[dq],by simp[dq],fun h=>absurd rfl h⟩,gC _ _⟩
 ·have bR:ns≠[]:=fun h=>bz (by rw[<-HN.out,h];rfl);obtain⟨b,o,rfl,bx,a5⟩:=HR.out bR;obtain⟨hB,-,bp⟩:=HO.out.free b rfl;have bB:Hid (∀i,i<n->∃P,dN w b (o+i*5) P):=aa (fun i hi=>⟨_,a5.get i (by rw[HN.out];exact hi)⟩);have bL:=aa bp;clear a5 bp;go_in;go_wp2;go_loopw[1,5](fun kv i wr=>∃k:Nat,k<=n/\i=.int .i64 k/\kv=.int .i64 ((k0+k*5:Nat):Int)/\(∀j,j<k->dN wr b (o+j*5) (eJ (k0+j*5)))/\(∀j,j<n->∃P,dN wr b (o+j*5) P)/\(∀j,wr.frozen? ⟨b,j,none⟩=false)/\w.grownBy wr (some b))(fun _ i _=>n-(intOf i).toNat);case atStart=>exact⟨0,Nat.zero_le _,rfl,rfl,fun j h=>absurd h (by omega),bB.out,bL.out,gC _ _⟩
  case round=>
   obtain⟨k,hk,rfl,rfl,ab,ay,ad,az⟩:=hrel;have HD:=aa ab;have HE:=aa ay;have HF:=aa ad;have HG:=aa az;have bn:b<wr.heap.size:=Nat.lt_of_lt_of_le bx az.size;by_cases bN:k<n;·
    obtain⟨P,g0,g1,g2,g3,g4⟩:=ay k bN;have cr:=ad (o+k*5);obtain⟨kk,a6⟩:∃kk,k0+k*5=kk:=⟨_,rfl⟩;rw[a6];have cb:kk<5900001:=by omega
    have ca:1<=kk:=by omega
    have bb:=aa a6;have l:Hid (∀(W:World)(x:Value)(i j:Nat),i≠j->(W.setCell ⟨b,o+k*5+i,none⟩ x).cell? ⟨b,o+k*5+j,none⟩=W.cell? ⟨b,o+k*5+j,none⟩):=aa (fun W x i j bM=>World.cell?_setCell_other _ _ _ _ (fun h=>bM (by injection h with h1 h2;omega)));have I:=aa (And.intro g0 (And.intro g1 (And.intro g2 (And.intro g3 g4))));clear ab ay ad az a6 g1 g2 g3 g4;go_wp2_with(first|(go_at_call 71;refine(cJ (kk+3) _ _ (by omega) (by omega) (by omega)).mono ?_;rintro e w3⟨rfl,aq⟩;have b7:b<w3.heap.size:=(by have:=aq.size;(try simp at this);omega);have bv:=(fun j=>aq.cell (p:=⟨b,j,none⟩) (by simpa using aM));have ah:Hid (∀j,w3.frozen? ⟨b,j,none⟩=false):=aa (fun j=>(aq.frozen (p:=⟨b,j,none⟩) (by simpa using aM)).trans ((World.frozen?_setCell _ _ _ _).trans (ac.out j)));have af:=aa bv;have bl:w3.cell? ⟨b,o+k*5+3,none⟩=some (.string P.label):=((af.out _).trans ((l.out _ _ 2 3 (by decide)).trans ((R.out _).trans ((l.out _ _ 1 3 (by decide)).trans ((l.out _ _ 0 3 (by decide)).trans ((C.out _).trans I.out.2.2.2.1))))));have bm:w3.cell? ⟨b,o+k*5+4,none⟩=some (.int .i64 P.sort):=((af.out _).trans ((l.out _ _ 2 4 (by decide)).trans ((R.out _).trans ((l.out _ _ 1 4 (by decide)).trans ((l.out _ _ 0 4 (by decide)).trans ((C.out _).trans I.out.2.2.2.2))))));have cp:=ah.out (o+k*5+3);have cq:=ah.out (o+k*5+4);have a9:Hid (w.grownBy w3 (some b)):=aa (e8 (dQ a8.out _ _) aq);clear aq bv)|(go_at_call 71;refine(cJ (kk+2) _ _ (by omega) (by omega) (by omega)).mono ?_;rintro e w2⟨rfl,an⟩;have aM:b<w2.heap.size:=(by have:=an.size;(try simp at this);omega);have bs:=(fun j=>an.cell (p:=⟨b,j,none⟩) (by simpa using aL));have ac:Hid (∀j,w2.frozen? ⟨b,j,none⟩=false):=aa (fun j=>(an.frozen (p:=⟨b,j,none⟩) (by simpa using aL)).trans ((World.frozen?_setCell _ _ _ _).trans ((World.frozen?_setCell _ _ _ _).trans (J.out j))));have R:=aa bs;have bk:w2.cell? ⟨b,o+k*5+2,none⟩=some (.string P.peer):=((R.out _).trans ((l.out _ _ 1 2 (by decide)).trans ((l.out _ _ 0 2 (by decide)).trans ((C.out _).trans I.out.2.2.1))));have b4:w2.cell? ⟨b,o+k*5+3,none⟩=some (.string P.label):=((R.out _).trans ((l.out _ _ 1 3 (by decide)).trans ((l.out _ _ 0 3 (by decide)).trans ((C.out _).trans I.out.2.2.2.1))));have b5:w2.cell? ⟨b,o+k*5+4,none⟩=some (.int .i64 P.sort):=((R.out _).trans ((l.out _ _ 1 4 (by decide)).trans ((l.out _ _ 0 4 (by decide)).trans ((C.out _).trans I.out.2.2.2.2))));have cl:=ac.out (o+k*5+2);have cm:=ac.out (o+k*5+3);have cn:=ac.out (o+k*5+4);have a8:Hid (w.grownBy w2 (some b)):=aa (e8 (dQ (dQ a7.out _ _) _ _) an);clear an bs)|(go_at_call 71;refine(cJ (kk+0) _ _ (by omega) (by omega) (by omega)).mono ?_;rintro e w1⟨rfl,al⟩;have aL:b<w1.heap.size:=(by have:=al.size;(try simp at this);omega);have br:=(fun j=>al.cell (p:=⟨b,j,none⟩) (by simpa using bn));have J:Hid (∀j,w1.frozen? ⟨b,j,none⟩=false):=aa (fun j=>(al.frozen (p:=⟨b,j,none⟩) (by simpa using bn)).trans (HF.out j));have C:=aa br;have bf:w1.cell? ⟨b,o+k*5,none⟩=some (.string P.role):=((C.out _).trans I.out.1);have bi:w1.cell? ⟨b,o+k*5+1,none⟩=some (.int .i64 P.kind):=((C.out _).trans I.out.2.1);have b1:w1.cell? ⟨b,o+k*5+2,none⟩=some (.string P.peer):=((C.out _).trans I.out.2.2.1);have b2:w1.cell? ⟨b,o+k*5+3,none⟩=some (.string P.label):=((C.out _).trans I.out.2.2.2.1);have b3:w1.cell? ⟨b,o+k*5+4,none⟩=some (.int .i64 P.sort):=((C.out _).trans I.out.2.2.2.2);have cc:=J.out (o+k*5);have cd:=J.out (o+k*5+1);have cf:=J.out (o+k*5+2);have cg:=J.out (o+k*5+3);have ch:=J.out (o+k*5+4);have a7:Hid (w.grownBy w1 (some b)):=aa (e8 HG.out al);clear al br));go_roundw;case rel=>
     have U:∀(W:World)(x:Value)(p q:Nat),p≠q->(W.setCell ⟨b,p,none⟩ x).cell? ⟨b,q,none⟩=W.cell? ⟨b,q,none⟩:=fun W x p q b0=>World.cell?_setCell_other _ _ _ _ (fun h=>b0 (by injection h));have T:∀x,(x<o+k*5\/o+k*5+5<=x)->(((w3.setCell ⟨b,o+k*5+3,none⟩ (.string (fL (kk+3)))).setCell ⟨b,o+k*5+4,none⟩ (.int .i64 ((kk:Int)+1+1+1+1)))).cell? ⟨b,x,none⟩=wr.cell? ⟨b,x,none⟩:=fun x hx=>by rw[U _ _ _ _ (by omega),U _ _ _ _ (by omega),af.out,U _ _ _ _ (by omega),R.out,U _ _ _ _ (by omega),U _ _ _ _ (by omega),C.out]
     have aN:dN (((w3.setCell ⟨b,o+k*5+3,none⟩ (.string (fL (kk+3)))).setCell ⟨b,o+k*5+4,none⟩ (.int .i64 ((kk:Int)+1+1+1+1)))) b (o+k*5) (eJ kk):=by
      refine⟨?_,?_,?_,?_,?_⟩;·rw[U _ _ _ _ (by omega),U _ _ _ _ (by omega),af.out,U _ _ _ _ (by omega),R.out,U _ _ _ _ (by omega)];refine(World.cell?_setCell_same _ _ _ (u:=.string P.role) (by exact bf)).trans (by simp[eJ];try omega)
      ·rw[U _ _ _ _ (by omega),U _ _ _ _ (by omega),af.out,U _ _ _ _ (by omega),R.out];refine(World.cell?_setCell_same _ _ _ (u:=.int .i64 P.kind) (by rw[U _ _ _ _ (by omega)];exact bi)).trans (by simp[eJ];try omega)
      ·rw[U _ _ _ _ (by omega),U _ _ _ _ (by omega),af.out];refine(World.cell?_setCell_same _ _ _ (u:=.string P.peer) (by exact bk)).trans (by simp[eJ];try omega)
      ·rw[U _ _ _ _ (by omega)];refine(World.cell?_setCell_same _ _ _ (u:=.string P.label) (by exact bl)).trans (by simp[eJ];try omega)
      ·refine(World.cell?_setCell_same _ _ _ (u:=.int .i64 P.sort) (by rw[U _ _ _ _ (by omega)];exact bm)).trans (by simp[eJ];try omega)
     have ax:∀j x,j≠k->dN wr b (o+j*5) x->dN (((w3.setCell ⟨b,o+k*5+3,none⟩ (.string (fL (kk+3)))).setCell ⟨b,o+k*5+4,none⟩ (.int .i64 ((kk:Int)+1+1+1+1)))) b (o+j*5) x:=fun j x hj hx=>by obtain⟨a0,a1,a2,a3,a4⟩:=hx;exact⟨(T _ (by omega)).trans a0,(T _ (by omega)).trans a1,(T _ (by omega)).trans a2,(T _ (by omega)).trans a3,(T _ (by omega)).trans a4⟩
     refine⟨k+1,by omega,by go_num,by have:=bb.out;congr 1;omega,fun j hj=>?_,fun j hj=>?_,fun j=>?_,(dQ (dQ a9.out _ _) _ _)⟩;·
      by_cases av:j=k;·subst av;rw[bb.out];exact aN
      ·exact ax j _ av (HD.out j (by omega))
     ·by_cases av:j=k;·subst av;exact⟨_,aN⟩
      ·obtain⟨x,hx⟩:=HE.out j hj;exact⟨x,ax j x av hx⟩
     ·rw[World.frozen?_setCell,World.frozen?_setCell];exact ah.out j
    case measure=>simp[intOf];omega
   ·clear ab ay ad az;go_wp2;go_ret;refine⟨bc (by omega),⟨_,_,by rw[eu],by rw[eu];exact hc,by rw[eu];exact hm,fun _=>⟨b,o,rfl,Nat.lt_of_lt_of_le bx HG.out.size,eB.of _ _ _ _ (fun j hj=>?_)⟩⟩,HG.out⟩;rw[lj];rw[eu]at hj;exact HD.out j (by omega)
theorem wN(k0 n:Nat)(v:Value)(w:World)(h1:1<=k0)(hk:k0+n*5<=5900000)(hv:dm w w.heap.size v (dq k0 n)):Calls Tryz.prog 67 #[v,.int .i64 k0] w fun e w'=>e=.returned (.int .i64 ((k0+n*5:Nat):Int))/\ZW w w':=by
 obtain⟨ao,cap,rfl,hc,hm,hr⟩:=hv;rw[eu]at hc|-;have HR:=aa hr;clear hr;go_in;go_wp2;go_loopw[1,5](fun kv i wr=>∃k:Nat,k<=n/\i=.int .i64 k/\kv=.int .i64 ((k0+k*5:Nat):Int)/\ZW w wr)(fun _ i _=>n-(intOf i).toNat);case atStart=>exact⟨0,Nat.zero_le _,rfl,rfl,Below.refl _ _⟩
 case round=>
  obtain⟨k,a6,rfl,rfl,C⟩:=hrel;have R:=aa C;have a5:=C.size;by_cases a2:k<n;·
   have T:k<(dq k0 n).length:=by rw[eu];exact a2
   obtain⟨b,o,rfl,a1,an⟩:=HR.out (by intro h;rw[h]at T;simp at T);have J:=(an.get k T).carry a1 C;rw[lj]at J;obtain⟨kk,aq⟩:∃kk,k0+k*5=kk:=⟨_,rfl⟩;rw[aq]at J|-;have a4:kk<5900001:=by omega
   have a3:1<=kk:=by omega
   have a0:=aa aq;obtain⟨c0,c1,c2,c3,c4⟩:=J;simp only[eJ]at c0 c1 c2 c3 c4;clear C an aq;go_wp2;refine bg (by kernel_rfl) (by kernel_rfl) (fun W j=>?_);have U:=bo W;have f0:=au (w:=W) (b:=b) (by rw[j];exact c0);have f1:=au (w:=W) (b:=b) (by rw[j];exact c1);have f2:=au (w:=W) (b:=b) (by rw[j];exact c2);have f3:=au (w:=W) (b:=b) (by rw[j];exact c3);have f4:=au (w:=W) (b:=b) (by rw[j];exact c4);have l:=aa j;clear j;repeat(go_big_quiet_step((go_at_call 71;exact bj (cJ (kk+0) _ _ (by omega) (by omega) (by omega)))))
   refine wpQuiet_nil ?_;intro w1 I;have ay:=f0 ⟨w1,I⟩;have az:=f1 ⟨w1,I⟩;have ac:=f2 ⟨w1,I⟩;have ad:=f3 ⟨w1,I⟩;have af:=f4 ⟨w1,I⟩;dsimp only at ay az ac ad af;have av:Hid (ZW w w1):=aa (R.out.trans ((by rw[l.out]at I;exact I:ZW wr w1).mono R.out.size));clear l U I f0 f1 f2 f3 f4;go_wp2;refine bg (by kernel_rfl) (by kernel_rfl) (fun W j=>?_);have U:=bo W;have f2:=au (w:=W) (b:=b) (by rw[j];exact ac);have f3:=au (w:=W) (b:=b) (by rw[j];exact ad);have f4:=au (w:=W) (b:=b) (by rw[j];exact af);have l:=aa j;clear j;repeat(go_big_quiet_step((go_at_call 71;exact bj (cJ (kk+2) _ _ (by omega) (by omega) (by omega)))))
   refine wpQuiet_nil ?_;intro w2 P;have aL:=f2 ⟨w2,P⟩;have ah:=f3 ⟨w2,P⟩;have al:=f4 ⟨w2,P⟩;dsimp only at aL ah al;have ax:Hid (ZW w w2):=aa (av.out.trans ((by rw[l.out]at P;exact P:ZW w1 w2).mono av.out.size));clear l U P f2 f3 f4;go_wp2;refine bg (by kernel_rfl) (by kernel_rfl) (fun W j=>?_);have U:=bo W;have f3:=au (w:=W) (b:=b) (by rw[j];exact ah);have f4:=au (w:=W) (b:=b) (by rw[j];exact al);have l:=aa j;clear j;repeat(go_big_quiet_step((go_at_call 71;exact bj (cJ (kk+3) _ _ (by omega) (by omega) (by omega)))))
   refine wpQuiet_nil ?_;intro w3 ab;have aM:=f3 ⟨w3,ab⟩;have aN:=f4 ⟨w3,ab⟩;dsimp only at aM aN;have aR:Hid (ZW w w3):=aa (ax.out.trans ((by rw[l.out]at ab;exact ab:ZW w2 w3).mono ax.out.size));clear l U ab f3 f4;go_wp2;all_goals
    go_roundw;case rel=>exact⟨k+1,by omega,by go_num,by have:=a0.out;congr 1;omega,aR.out⟩
    case measure=>simp[intOf];omega
  ·clear C;go_wp2;go_ret;exact⟨bc (by omega),R.out⟩
theorem dY(w:World)(cs:List Value)(t:TypeId)(j:Nat)(u:Value)(h:cs[j]?=some u):(w.alloc (.cells cs.toArray t)).cell? (Addr.add ⟨w.heap.size,0,none⟩ j)=some u:=by
 have e:(w.alloc (.cells cs.toArray t)).heap[w.heap.size]?=some (.cells cs.toArray t):=bZ _ _ _ rfl;have l:Addr.add ⟨w.heap.size,0,none⟩ j=⟨w.heap.size,j,none⟩:=by unfold Addr.add;split<;>simp_all
 rw[l];simp only[World.cell?];rw[e];simpa using h
theorem Tryz.rP:(Tryz.prog.info? 9).map (fun i=>(i.zero,i.size,i.bytes))=some (some (.string .empty),1,16):=by kernel_rfl
def b8.cells(x:b8):List Value:=[.int .i64 x.kind,.string x.peer,.string x.label,.int .i64 x.sort]
theorem b8.bh(x:b8):x.cells.length=4:=rfl
theorem b8.cells_one(x:b8):∀u∈x.cells,u.oneCell'=true:=by intro u hu;simp[b8.cells]at hu;rcases hu with rfl|rfl|rfl|rfl<;>rfl
def cW(w:World)(base:Nat)(v:Value)(l:List b8):Prop:=w.ownsRow base 104 4 v l.length (l.flatMap b8.cells)
theorem cW.sl{w:World}{base:Nat}{v:Value}{l:List b8}(h:cW w base v l)(hl:l.length<=4294967296):eP w w.heap.size v l:=by
 have H:=h;obtain⟨_,T⟩:=h;rcases T with⟨rfl,P⟩|⟨I,cap,J,rfl,hg,C,R,_⟩;·have:l=[]:=List.length_eq_zero_iff.1 P;subst this;exact⟨none,0,rfl,Nat.le_refl _,by simp,fun h=>absurd rfl h⟩
 ·refine⟨_,_,rfl,R,hl,fun _=>⟨I,0,rfl,(Array.getElem?_eq_some_iff.1 C).1,iY.of w I l 0 (fun j U=>?_)⟩⟩;rw[Nat.zero_add];have e:=fun i(hi:i<4)(x:Value)(hx:(l[j].cells)[i]?=some x)=>cQ H rfl (j*4+i) x ((dT b8.cells 4 b8.bh l j U i hi).trans hx);exact⟨e 0 (by omega) _ rfl,e 1 (by omega) _ rfl,e 2 (by omega) _ rfl,e 3 (by omega) _ rfl⟩
theorem cW.aA{w w':World}{base:Nat}{v:Value}{x:List b8}{l:List Nat}(h:cW w base v x)(j:aH w w' l)(hd:∀b∈ae v,b∉l):cW w' base v x:=aK h j hd
theorem cW.below{w w':World}{base:Nat}{v:Value}{x:List b8}(h:cW w base v x)(j:ZW w w'):cW w' base v x:=aT h j
theorem cW.fresh{w:World}{base:Nat}{v:Value}{x:List b8}(h:cW w base v x):dk base w v:=ak h
theorem cW.nil(w:World)(base:Nat):cW w base (.slice none 0 0) []:=dd w base _ _
theorem cW.snoc{w:World}{base:Nat}{v:Value}{l:List b8}{x:b8}(h:w.ownsRow base 104 4 v (l.length+1) (l.flatMap b8.cells++x.cells)):cW w base v (l++[x]):=by unfold cW;rw[List.length_append,List.length_singleton,List.flatMap_append];simpa using h
def ba.cells(x:ba):List Value:=[.string x.role,.int .i64 x.kind,.string x.peer,.string x.label,.int .i64 x.sort]
theorem ba.bh(x:ba):x.cells.length=5:=rfl
theorem ba.cells_one(x:ba):∀u∈x.cells,u.oneCell'=true:=by intro u hu;simp[ba.cells]at hu;rcases hu with rfl|rfl|rfl|rfl|rfl<;>rfl
def cP(w:World)(base:Nat)(v:Value)(l:List ba):Prop:=w.ownsRow base 115 5 v l.length (l.flatMap ba.cells)
theorem cP.sl{w:World}{base:Nat}{v:Value}{l:List ba}(h:cP w base v l)(hl:l.length<=4294967296):dm w w.heap.size v l:=by
 have H:=h;obtain⟨_,T⟩:=h;rcases T with⟨rfl,P⟩|⟨I,cap,J,rfl,hg,C,R,_⟩;·have:l=[]:=List.length_eq_zero_iff.1 P;subst this;exact⟨none,0,rfl,Nat.le_refl _,by simp,fun h=>absurd rfl h⟩
 ·refine⟨_,_,rfl,R,hl,fun _=>⟨I,0,rfl,(Array.getElem?_eq_some_iff.1 C).1,eB.of w I l 0 (fun j U=>?_)⟩⟩;rw[Nat.zero_add];have e:=fun i(hi:i<5)(x:Value)(hx:(l[j].cells)[i]?=some x)=>cQ H rfl (j*5+i) x ((dT ba.cells 5 ba.bh l j U i hi).trans hx);exact⟨e 0 (by omega) _ rfl,e 1 (by omega) _ rfl,e 2 (by omega) _ rfl,e 3 (by omega) _ rfl,e 4 (by omega) _ rfl⟩
theorem cP.aA{w w':World}{base:Nat}{v:Value}{x:List ba}{l:List Nat}(h:cP w base v x)(j:aH w w' l)(hd:∀b∈ae v,b∉l):cP w' base v x:=aK h j hd
theorem cP.below{w w':World}{base:Nat}{v:Value}{x:List ba}(h:cP w base v x)(j:ZW w w'):cP w' base v x:=aT h j
theorem cP.fresh{w:World}{base:Nat}{v:Value}{x:List ba}(h:cP w base v x):dk base w v:=ak h
theorem cP.nil(w:World)(base:Nat):cP w base (.slice none 0 0) []:=dd w base _ _
theorem cP.snoc{w:World}{base:Nat}{v:Value}{l:List ba}{x:ba}(h:w.ownsRow base 115 5 v (l.length+1) (l.flatMap ba.cells++x.cells)):cP w base v (l++[x]):=by unfold cP;rw[List.length_append,List.length_singleton,List.flatMap_append];simpa using h
section
attribute [local go_sem ↓] Go.wp_at_zero Go.wp_at_succ
def mG(k n:Nat):List Int:=(List.range n).map fun i=>((k+i:Nat):Int)
theorem fq(k n:Nat):(mG k n).length=n:=by simp[mG]
theorem tZ(k n i:Nat)(h:i<(mG k n).length):(mG k n)[i]=((k+i:Nat):Int):=by simp[mG]
theorem ua(U:Nat)(l:List Int)(v:Value)(w:World)(B:Nat)(hk:U+l.length<=9000000)(hv:di w w.heap.size v l)(R:nQ B w v):Calls Tryz.prog 28 #[v,.int .i64 U] w fun e w'=>e=.returned (.int .i64 ((U+l.length:Nat):Int))/\di w' w'.heap.size v (mG U l.length)/\aH w w' (ae v):=by
 obtain⟨ao,cap,rfl,hc,hm,hr⟩:=hv;have HR:=aa hr;have HO:=aa R;obtain⟨n,hn⟩:∃n,l.length=n:=⟨_,rfl⟩;rw[hn]at hc hk hm|-;have HN:=aa hn;clear hr R hn;by_cases ah:n=0;·
  subst ah;go_in;go_wp2;go_loopw[1,5](fun kv i wr=>i=.int .i64 0/\kv=.int .i64 (U:Int)/\wr=w)(fun _ _ _=>0);case atStart=>exact⟨rfl,rfl,rfl⟩
  case round=>obtain⟨rfl,rfl,rfl⟩:=hrel;go_wp2;go_ret;exact⟨bc rfl,⟨_,_,rfl,Nat.zero_le _,Nat.zero_le _,fun h=>absurd rfl h⟩,(aH.refl _).sub (by simp)⟩
 ·have av:l≠[]:=fun h=>ah (by rw[<-HN.out,h];rfl);obtain⟨b,o,rfl,aq,T⟩:=HR.out av;obtain⟨hB,-,af⟩:=HO.out.free b rfl;have al:Hid (∀i,i<n->∃y,w.cell? ⟨b,o+i,none⟩=some y):=aa (fun i hi=>⟨_,T i (by rw[HN.out];exact hi)⟩);have an:=aa af;clear T af;go_in;go_wp2;go_loopw[1,5](fun kv i wr=>∃k:Nat,k<=n/\i=.int .i64 k/\kv=.int .i64 ((U+k:Nat):Int)/\(∀j,j<k->wr.cell? ⟨b,o+j,none⟩=some (.int .i64 ((U+j:Nat):Int)))/\(∀j,j<n->∃y,wr.cell? ⟨b,o+j,none⟩=some y)/\(∀j,wr.frozen? ⟨b,j,none⟩=false)/\aH w wr [b])(fun _ i _=>n-(intOf i).toNat);case atStart=>exact⟨0,Nat.zero_le _,rfl,rfl,fun j h=>absurd h (by omega),al.out,an.out,(aH.refl _).sub (by simp)⟩
  case round=>
   obtain⟨k,az,rfl,rfl,C,J,I,ab⟩:=hrel;have HD:=aa C;have HE:=aa J;have HF:=aa I;have HA:=aa ab;by_cases P:k<n;·
    obtain⟨y,hy⟩:=J k P;have ax:=I (o+k);obtain⟨kk,ac⟩:∃kk,U+k=kk:=⟨_,rfl⟩;rw[ac];have ay:kk<9000001:=by omega
    have ad:=aa ac;clear C J I ab ac;go_wp2;go_roundw;case rel=>
     refine⟨k+1,P,by go_num,by have:=ad.out;congr 1;omega,fun j hj=>?_,fun j hj=>?_,fun j=>?_,?_⟩;·
      by_cases e:j=k;·subst e;rw[ad.out];exact World.cell?_setCell_same _ _ _ hy
      ·rw[World.cell?_setCell_other _ _ _ _ (by intro e;injection e with _ e2;omega)];exact HD.out j (by omega)
     ·by_cases e:j=k;·subst e;exact⟨_,World.cell?_setCell_same _ _ _ hy⟩
      ·obtain⟨z,hz⟩:=HE.out j hj;exact⟨z,by rw[World.cell?_setCell_other _ _ _ _ (by intro e;injection e with _ e2;omega)];exact hz⟩
     ·rw[World.frozen?_setCell];exact HF.out j
     ·exact(HA.out.trans (aG wr b (o+k) _)).sub (by simp)
    case measure=>simp[intOf];omega
   ·obtain rfl:k=n:=by omega
    clear C J I ab;go_wp2;go_ret;refine⟨bc rfl,⟨_,_,by rw[fq],by rw[fq];exact hc,by rw[fq];exact hm,fun _=>⟨b,o,rfl,Nat.lt_of_lt_of_le aq HA.out.size,fun j hj=>?_⟩⟩,HA.out.sub (by simp[ae,aJ])⟩;rw[tZ];rw[fq]at hj;exact HD.out j hj
theorem BG(P n:Nat)(v:Value)(w:World)(hk:P+n<=9000000)(hv:di w w.heap.size v (mG P n)):Calls Tryz.prog 94 #[v,.int .i64 P] w fun e w'=>e=.returned (.int .i64 ((P+n:Nat):Int))/\ZW w w':=by
 obtain⟨ao,cap,rfl,hc,hm,hr⟩:=hv;rw[fq]at hc hm|-;have HR:=aa hr;clear hr;go_in;go_wp2;go_loopw[1,5](fun kv i wr=>∃k:Nat,k<=n/\i=.int .i64 k/\kv=.int .i64 ((P+k:Nat):Int)/\ZW w wr)(fun _ i _=>n-(intOf i).toNat);case atStart=>exact⟨0,Nat.zero_le _,rfl,rfl,Below.refl _ _⟩
 case round=>
  obtain⟨k,ac,rfl,rfl,C⟩:=hrel;have j:=aa C;clear C;by_cases R:k<n;·
   have l:k<(mG P n).length:=by rw[fq];exact R
   obtain⟨b,o,rfl,U,I⟩:=HR.out (by intro h;rw[h]at l;simp at l);have c0:=(I.carry U j.out) k l;rw[tZ]at c0;obtain⟨kk,J⟩:∃kk,P+k=kk:=⟨_,rfl⟩;rw[J]at c0|-;have ab:kk<9000001:=by omega
   have T:=aa J;clear J I;go_wp2;go_roundw;case rel=>exact⟨k+1,R,by go_num,by have:=T.out;congr 1;omega,j.out⟩
   case measure=>simp[intOf];omega
  ·obtain rfl:k=n:=by omega
   go_wp2;go_ret;exact⟨bc rfl,j.out⟩
end
theorem C6{w:World}{b:Nat}{j C I:Value}{l:List Value}(h:aV w b (j::C::I::l)):w.cell? ⟨b,0,none⟩=some j/\w.cell? ⟨b,1,none⟩=some C/\w.cell? ⟨b,2,none⟩=some I:=⟨h.cell 0 _ rfl,h.cell 1 _ rfl,h.cell 2 _ rfl⟩
theorem jc{w:World}{b:Nat}{j C I J:Value}{l:List Value}(h:aV w b (j::C::I::J::l)):w.cell? ⟨b,0,none⟩=some j/\w.cell? ⟨b,1,none⟩=some C/\w.cell? ⟨b,2,none⟩=some I/\w.cell? ⟨b,3,none⟩=some J:=⟨h.cell 0 _ rfl,h.cell 1 _ rfl,h.cell 2 _ rfl,h.cell 3 _ rfl⟩
theorem KN{w:World}{b:Nat}{j C I J P:Value}{l:List Value}(h:aV w b (j::C::I::J::P::l)):w.cell? ⟨b,0,none⟩=some j/\w.cell? ⟨b,1,none⟩=some C/\w.cell? ⟨b,2,none⟩=some I/\w.cell? ⟨b,3,none⟩=some J/\w.cell? ⟨b,4,none⟩=some P:=⟨h.cell 0 _ rfl,h.cell 1 _ rfl,h.cell 2 _ rfl,h.cell 3 _ rfl,h.cell 4 _ rfl⟩
theorem lV{w:World}{b:Nat}{j C I J P R:Value}{l:List Value}(h:aV w b (j::C::I::J::P::R::l)):w.cell? ⟨b,0,none⟩=some j/\w.cell? ⟨b,1,none⟩=some C/\w.cell? ⟨b,2,none⟩=some I/\w.cell? ⟨b,3,none⟩=some J/\w.cell? ⟨b,4,none⟩=some P/\w.cell? ⟨b,5,none⟩=some R:=⟨h.cell 0 _ rfl,h.cell 1 _ rfl,h.cell 2 _ rfl,h.cell 3 _ rfl,h.cell 4 _ rfl,h.cell 5 _ rfl⟩
theorem yd{w:World}{b:Nat}{j C I J:Value}{l:List Value}(h:aV w b (j::C::I::J::l)):w.cell? ⟨b,0,none⟩=some j/\w.cell? ⟨b,1,none⟩=some C/\w.cell? ⟨b,2,none⟩=some I/\w.cell? ⟨b,3,none⟩=some J/\∀o,w.frozen? ⟨b,o,none⟩=false:=⟨h.cell 0 _ rfl,h.cell 1 _ rfl,h.cell 2 _ rfl,h.cell 3 _ rfl,h.fz⟩
theorem j9{w:World}{b:Nat}{j C I J P R:Value}{l:List Value}(h:aV w b (j::C::I::J::P::R::l)):w.cell? ⟨b,0,none⟩=some j/\w.cell? ⟨b,1,none⟩=some C/\w.cell? ⟨b,2,none⟩=some I/\w.cell? ⟨b,3,none⟩=some J/\w.cell? ⟨b,4,none⟩=some P/\w.cell? ⟨b,5,none⟩=some R/\∀o,w.frozen? ⟨b,o,none⟩=false:=⟨h.cell 0 _ rfl,h.cell 1 _ rfl,h.cell 2 _ rfl,h.cell 3 _ rfl,h.cell 4 _ rfl,h.cell 5 _ rfl,h.fz⟩
