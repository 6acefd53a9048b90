import Derived.Test.YtdiiiijkhpdcbaaGreatDoorRV00
import Derived.Deep.RegionLaw
namespace Go.Proofs.YtdiiiijkhpdcbaaGreatDoor
open Go.RowKit
set_option linter.unusedSimpArgs false
set_option linter.unusedVariables false
set_option maxHeartbeats 400000
structure aF where
 cE:ByteArray
 to:ByteArray
 label:ByteArray
 sort:Int
def aF.val(x:aF):Value:=.agg #[.string x.cE,.string x.to,.string x.label,.int .i64 x.sort]
def aF.ok(x:aF):Prop:=x.cE.size<=maxLen/\x.to.size<=maxLen/\x.label.size<=maxLen
def aF.fit(x:aF):Prop:=x.cE.size<=1048576/\x.to.size<=1048576/\x.label.size<=1048576
def dR(w:World)(b o:Nat)(x:aF):Prop:=w.cell? ⟨b,o,none⟩=some (.string x.cE)/\w.cell? ⟨b,o+1,none⟩=some (.string x.to)/\w.cell? ⟨b,o+2,none⟩=some (.string x.label)/\w.cell? ⟨b,o+3,none⟩=some (.int .i64 x.sort)
def dB(w:World)(b:Nat):Nat->List aF->Prop|_,[]=>True|o,x::l=>dR w b o x/\dB w b (o+4) l
theorem dR.carry{w w':World}{b o:Nat}{x:aF}(h:dR w b o x){B:Nat}(j:b<B)(l:Below B w w'):dR w' b o x:=by obtain⟨C,I,J,P⟩:=h;exact⟨(l.cell (p:=⟨b,_,none⟩) j).trans C,(l.cell (p:=⟨b,_,none⟩) j).trans I,(l.cell (p:=⟨b,_,none⟩) j).trans J,(l.cell (p:=⟨b,_,none⟩) j).trans P⟩
theorem dR.lt{w:World}{b o:Nat}{x:aF}(h:dR w b o x):b<w.heap.size:=World.block_lt_of_cell? w _ h.1
theorem dB.carry{w w':World}{b B:Nat}(j:b<B)(C:Below B w w'):∀{l:List aF}{o:Nat},dB w b o l->dB w' b o l|[],_,_=>trivial|_::_,_,h=>⟨h.1.carry j C,dB.carry j C h.2⟩
theorem dB.get{w:World}{b:Nat}:∀{l:List aF}{o:Nat},dB w b o l->∀i(h:i<l.length),dR w b (o+i*4) l[i]|_::_,_,h,0,_=>by simpa using h.1|_::l,o,h,i+1,hi=>by have:=h.2.get i (by simpa using hi);rw[show o+4+i*4=o+(i+1)*4 from by omega]at this;simpa using this
theorem dB.of(w:World)(g:Nat):∀(l:List aF)(o:Nat),(∀j(h:j<l.length),dR w g (o+j*4) l[j])->dB w g o l|[],_,_=>trivial|x::l,o,h=>⟨by have:=h 0 (by simp);simpa only[Nat.zero_mul,Nat.add_zero,List.getElem_cons_zero]using this,dB.of w g l (o+4) (fun j C=>by have:=h (j+1) (by simpa using C);rw[show o+(j+1)*4=o+4+j*4 from by omega]at this;simpa only[List.getElem_cons_succ]using this)⟩
def bq(w:World)(B:Nat)(v:Value)(l:List aF):Prop:=∃j cap,v=.slice j l.length cap/\l.length<=cap/\l.length<=4294967296/\(l≠[]->∃b o,j=some ⟨b,o,none⟩/\b<B/\dB w b o l)
theorem bq.carry{w w':World}{B:Nat}{v:Value}{l:List aF}(h:bq w B v l)(U:Below B w w'):bq w' B v l:=by obtain⟨I,cap,J,P,R,T⟩:=h;refine⟨I,cap,J,P,R,fun C=>?_⟩;obtain⟨b,o,e,j,hr⟩:=T C;exact⟨b,o,e,j,hr.carry j U⟩
theorem bq.up{w:World}{B C:Nat}{v:Value}{l:List aF}(h:bq w B v l)(hB:B<=C):bq w C v l:=by obtain⟨I,cap,J,P,R,T⟩:=h;refine⟨I,cap,J,P,R,fun j=>?_⟩;obtain⟨b,o,e,U,hr⟩:=T j;exact⟨b,o,e,by omega,hr⟩
theorem dR.block{w w':World}{b o:Nat}{x:aF}(h:dR w b o x)(j:w'.heap[b]?=w.heap[b]?):dR w' b o x:=by obtain⟨l,C,I,J⟩:=h;exact⟨(World.cell?_of_block (a:=⟨b,_,none⟩) j).trans l,(World.cell?_of_block (a:=⟨b,_,none⟩) j).trans C,(World.cell?_of_block (a:=⟨b,_,none⟩) j).trans I,(World.cell?_of_block (a:=⟨b,_,none⟩) j).trans J⟩
theorem dB.block{w w':World}{b:Nat}(j:w'.heap[b]?=w.heap[b]?):∀{l:List aF}{o:Nat},dB w b o l->dB w' b o l|[],_,_=>trivial|_::_,_,h=>⟨h.1.block j,dB.block j h.2⟩
theorem bq.aB{w w':World}{B I:Nat}{v:Value}{l:List aF}(h:bq w B v l)(hB:B<=I)(U:∀b,v.ownBlock=some b->b<B->w'.heap[b]?=w.heap[b]?):bq w' I v l:=by obtain⟨J,cap,rfl,P,R,T⟩:=h;refine⟨J,cap,rfl,P,R,fun C=>?_⟩;obtain⟨b,o,rfl,j,hr⟩:=T C;exact⟨b,o,rfl,by omega,hr.block (U b rfl j)⟩
theorem bq.ix{w:World}{B:Nat}{v:Value}{l:List aF}(h:bq w B v l):l.length<=4294967296:=by obtain⟨j,cap,_,C,I,_⟩:=h;omega
theorem Tryz.fK:(Tryz.prog.info? 158).map (fun i=>(i.zero,i.size,i.bytes))=some (some (.agg #[.string ByteArray.empty,.string ByteArray.empty,.string ByteArray.empty,.int .i64 0]),4,56):=by kernel_rfl
theorem IQ(x:aF)(w:World):Calls Tryz.prog 110 #[x.val] w fun e w'=>e=.returned x.val/\Below w.heap.size w w':=by
 have hi:(Tryz.prog.info? 158).map (·.size)=some 4:=by obtain⟨C,hi,_,j,_⟩:=info_parts Tryz.fK;rw[hi];simp[j]
 have l:=aa hi;clear hi;unfold aF.val;go_enter Tryz.func110,Tryz.ntmps110;go_wp2_with fail;refine bodyPost_ret_by (results_cell_row rfl _ _ (w.heap.size+1) 158 #[.string x.cE,.string x.to,.string x.label,.int .i64 x.sort] (0,0) _ rfl ?_ Tryz.underlying158 rfl l.out) rfl ⟨rfl,((ae _ _).trans ((ae _ _).mono (by simp))).trans ((ae _ _).mono (by simp;omega))⟩;rw[eV _ _ _ (by simp),b6 _ _ _ (by simp)]
def iI(w:World)(g p:Nat)(x:aF):World:=(((w.setCell ⟨g,p,none⟩ (.string x.cE)).setCell ⟨g,p+1,none⟩ (.string x.to)).setCell ⟨g,p+2,none⟩ (.string x.label)).setCell ⟨g,p+3,none⟩ (.int .i64 x.sort)
theorem uY(w:World)(g p:Nat)(x:aF)(a:Addr)(h:∀i,i<4->a≠⟨g,p+i,none⟩):(iI w g p x).cell? a=w.cell? a:=by unfold iI;rw[World.cell?_setCell_other _ _ _ _ (Ne.symm (h 3 (by omega))),World.cell?_setCell_other _ _ _ _ (Ne.symm (h 2 (by omega))),World.cell?_setCell_other _ _ _ _ (Ne.symm (h 1 (by omega))),World.cell?_setCell_other _ ⟨g,p,none⟩ _ _ (Ne.symm (h 0 (by omega)))]
theorem tQ(w:World)(g p:Nat)(x:aF)(j:∀i,i<4->∃y,w.cell? ⟨g,p+i,none⟩=some y):dR (iI w g p x) g p x:=by
 obtain⟨U,l⟩:=j 0 (by omega);obtain⟨P,C⟩:=j 1 (by omega);obtain⟨R,I⟩:=j 2 (by omega);obtain⟨T,J⟩:=j 3 (by omega);unfold iI;refine⟨?_,?_,?_,?_⟩;·rw[World.cell?_setCell_other _ _ _ _ (by simp),World.cell?_setCell_other _ _ _ _ (by simp),World.cell?_setCell_other _ _ _ _ (by simp)];exact World.cell?_setCell_same _ _ _ l
 ·rw[World.cell?_setCell_other _ _ _ _ (by simp),World.cell?_setCell_other _ _ _ _ (by simp)];exact World.cell?_setCell_same _ _ _ (u:=P) (by rw[World.cell?_setCell_other _ _ _ _ (by simp)];exact C)
 ·rw[World.cell?_setCell_other _ _ _ _ (by simp)];exact World.cell?_setCell_same _ _ _ (u:=R) (by rw[World.cell?_setCell_other _ _ _ _ (by simp),World.cell?_setCell_other _ _ _ _ (by simp)];exact I)
 ·exact World.cell?_setCell_same _ _ _ (u:=T) (by rw[World.cell?_setCell_other _ _ _ _ (by simp),World.cell?_setCell_other _ _ _ _ (by simp),World.cell?_setCell_other _ _ _ _ (by simp)];exact J)
theorem ou{B:Nat}{a w:World}(h:Below B a w){g:Nat}(j:B<=g)(p:Nat)(x:aF):Below B a (iI w g p x):=((((h.setCell (p:=⟨g,p,none⟩) j _).setCell (p:=⟨g,p+1,none⟩) j _).setCell (p:=⟨g,p+2,none⟩) j _).setCell (p:=⟨g,p+3,none⟩) j _)
theorem xv(w:World)(g p:Nat)(x:aF):(iI w g p x).heap.size=w.heap.size:=by simp[iI]
theorem sY(w:World)(g p:Nat)(x:aF)(a:Addr):(iI w g p x).frozen? a=w.frozen? a:=by simp[iI]
theorem Ic(x:aF)(w:World):Calls Tryz.prog 121 #[x.val,x.val] w fun e w'=>e=.returned (.bool true)/\Below w.heap.size w w':=by unfold aF.val;go_enter Tryz.func121,Tryz.ntmps121;go_wp2_with fail;go_ret;exact⟨rfl,(ae _ _).trans ((ae _ _).mono (by simp))⟩
theorem Fu(l:List aF)(v u:Value)(w:World)(hv:bq w w.heap.size v l)(hu:bq w w.heap.size u l):Calls Tryz.prog 62 #[v,u] w fun e w'=>e=.returned (.bool true)/\Below w.heap.size w w':=by
 obtain⟨ao,cap,rfl,hc,hm,hr⟩:=hv;obtain⟨av,aq,rfl,ax,ay,af⟩:=hu;have HR:=aa hr;have al:=aa af;clear hr af;go_enter Tryz.func62,Tryz.ntmps62;go_wp2_with fail;go_loopw[5](fun i wr=>∃k:Nat,k<=l.length/\i=.int .i64 k/\Below w.heap.size w wr)(fun i _=>l.length-(intOf i).toNat);case atStart=>exact⟨0,Nat.zero_le _,rfl,Below.refl _ _⟩
 case round=>
  obtain⟨k,hk,rfl,I⟩:=hrel;have j:=aa I;have R:=I.size;clear I;by_cases T:k<l.length;·
   obtain⟨b,o,rfl,an,U⟩:=HR.out (by intro h;simp[h]at T);obtain⟨b',o',rfl,ad,P⟩:=al.out (by intro h;simp[h]at T);have J:=(U.get k T).carry an j.out;have C:=(P.get k T).carry ad j.out;obtain⟨x1,ah⟩:∃x1,x1=l[k]:=⟨_,rfl⟩;rw[<-ah]at J C;clear ah U P;obtain⟨c0,c1,c2,c3⟩:=J;obtain⟨d0,d1,d2,d3⟩:=C;go_wp2_with fail;go_region_with(go_at_call 121;refine(Ic x1 _).mono ?_;rintro e w1⟨rfl,ac⟩;have ab:=aa ac;clear ac);go_wp2_with fail;all_goals
    go_roundw;case rel=>exact⟨k+1,by omega,by go_num,by first|exact j.out.trans (ab.out.mono R)|exact j.out.drew.trans (ab.out.mono R)|exact j.out.drew.drew.trans (ab.out.mono R)⟩
    case measure=>simp[intOf];omega
  ·go_wp2_with fail;go_ret;exact⟨rfl,j.out⟩
theorem ql{P:Program}{R:Array Oper}{o:Oper}{a:Act}{w:World}{K:Act->World->Prop}{Q:Exit->Act->World->Prop}{E:Prop}(hg:o.guard=none)(s x:Operand)(t:TypeId)(ac:o.op=Op.call {callee:=Callee.builtin Builtin.append,args:=#[s,x],argTypes:=#[t,t]})(e:TypeId)(i:TypeInfo)(z:Value)(size bytes:Nat)(h1:P.underlying t=some (.slice e))(h2:P.info? e=some i)(h3:i.zero=some z)(h4:i.size=size)(h5:i.bytes=bytes)(h6:z.cells.size=size)(h7:0<size)(b:Addr)(n cap:Nat)(C:List Value)(hs:a.eval s=.slice (some b) n cap)(ab:C.length=n*size)(holds:∀j u,C[j]?=some u->w.cell? (b.add j)=some u)(U:Addr)(m c:Nat)(l:List Value)(hx:a.eval x=.slice (some U) m c)(hn:l.length=m*size)(hc:∀j u,l[j]?=some u->w.cell? (U.add j)=some u)(I:cap<n+m)(b1:n+m<=maxLen)(b2:(n+m)*bytes<=140737488355328)(hK:∀T w',w'.ownsRow w.heap.size e size T (n+m) (C++l)->w.grownBy w' none->K (a.put o.dst T) w'):if Region.wanted o (yielded R a.tmps)=true then Oper.wp P o a w K Q else E:=by
 have hw:Region.wanted o (yielded R a.tmps)=true:=by simp[Region.wanted,hg]
 rw[if_pos hw];obtain⟨T,w',J,r1,r2⟩:=run_append_arg_grows (P:=P) w t o.type e i z size bytes h1 h2 h3 h4 h5 h6 h7 b n cap C ab holds U m c l hn hc I b1 b2;unfold Oper.wp;simp[execOp,ac,resolve,invoke,builtin,hs,hx,J,Result.andThen];exact hK T w' r1 r2
theorem fX{P:Program}{R:Array Oper}{o:Oper}{a:Act}{w:World}{K:Act->World->Prop}{Q:Exit->Act->World->Prop}{E:Prop}(hg:o.guard=none)(s x:Operand)(t:TypeId)(ac:o.op=Op.call {callee:=Callee.builtin Builtin.append,args:=#[s,x],argTypes:=#[t,t]})(base:Nat)(e:TypeId)(i:TypeInfo)(z:Value)(size bytes:Nat)(h1:P.underlying t=some (.slice e))(h2:P.info? e=some i)(h3:i.zero=some z)(h4:i.size=size)(h5:i.bytes=bytes)(h6:z.cells.size=size)(h7:0<size)(v:Value)(n:Nat)(xs:List Value)(hs:a.eval s=v)(I:w.ownsRow base e size v n xs)(U:Addr)(m c:Nat)(l:List Value)(hx:a.eval x=.slice (some U) m c)(hn:l.length=m*size)(hc:∀j u,l[j]?=some u->w.cell? (U.add j)=some u)(ab:∀u∈l,u.oneCell'=true)(b1:n+m<=maxLen)(b2:(n+m)*bytes<=140737488355328)(C:base<=w.heap.size)(hK:∀T w',w'.ownsRow base e size T (n+m) (xs++l)->w.grownBy w' v.ownBlock->K (a.put o.dst T) w'):if Region.wanted o (yielded R a.tmps)=true then Oper.wp P o a w K Q else E:=by
 have hw:Region.wanted o (yielded R a.tmps)=true:=by simp[Region.wanted,hg]
 rw[if_pos hw];obtain⟨T,w',J,r1,r2,_⟩:=run_append_own (P:=P) w base t o.type e i z size bytes h1 h2 h3 h4 h5 h6 h7 v n xs I U m c l hn hc ab b1 b2 C;unfold Oper.wp;simp[execOp,ac,resolve,invoke,builtin,hs,hx,J,Result.andThen];exact hK T w' r1 r2
