import Derived.Test.YtdiiiijkhpdcbaaGreatDoorRX06
import Derived.Test.YtdiiiijkhpdcbaaGreatDoorRX07
namespace Go.Proofs.YtdiiiijkhpdcbaaGreatDoor
open Go.RowKit
set_option linter.unusedSimpArgs false
set_option linter.unusedVariables false
set_option maxHeartbeats 1000000
set_option maxRecDepth 100000
def be:List Nd->List ByteArray|[]=>[]|n::st=>if n.op==2 then be st++[n.name]else be st
def dO:List Nd->Nat|[]=>0|n::st=>if n.op==2 then dO st else(be st).length
def jm:List Nd->Prop|[]=>True|n::st=>(n.op≠2\/n.op=2/\cw (be st) n.name=false)/\jm st
theorem fB:∀st:List Nd,dO st<=(be st).length|[]=>Nat.le_refl _|n::st=>by have:=fB st;rw[dO,be];cases h:(n.op==2)<;>simp<;>omega
theorem kM(a b:List ByteArray)(t:ByteArray):cw (a++b) t=(cw a t||cw b t):=by simp[cw]
theorem jz:∀st:List Nd,(be st).length<=st.length|[]=>Nat.le_refl _|n::st=>by have:=jz st;rw[be];split<;>simp<;>omega
theorem fY:∀(st:List Nd)(t:ByteArray),bW st t=cw (be st) t
 |[],_=>rfl|n::st,t=>by
  have:=fY st t;rw[bW]at*;rw[List.any_cons,this,be];cases h:(n.op==2);·simp
  ·rw[if_pos rfl,kM];simp[cw,Bool.or_comm]
theorem tv:∀(st:List Nd)(t:ByteArray),jm st->eR true st t=cw (be st) t
 |[],_,_=>rfl|n::st,t,h=>by
  have ih:=tv st t h.2;rw[eR,be];rcases h.1 with l|⟨j,I⟩;·simp[l,ih]
  ·have e:(n.op==2)=true:=by rw[j];rfl
   rw[e,if_pos rfl,if_pos rfl,kM,ih];cases C:(n.name.toList==t.toList)<;>simp[cw,C]
theorem mL:∀(st:List Nd)(t:ByteArray),jm st->eR false st t=cw ((be st).take (dO st)) t
 |[],_,_=>rfl|n::st,t,h=>by
  rw[eR,be,dO];rcases h.1 with J|⟨I,j⟩;·simp[J,tv st t h.2]
  ·have ih:=mL st t h.2;have P:=fB st;have e:(n.op==2)=true:=by rw[I];rfl
   rw[e];simp only[if_true];rw[List.take_append_of_le_length P];cases C:(n.name.toList==t.toList);·rw[if_neg (by decide)];exact ih
   ·rw[if_pos rfl];symm;rw[beq_iff_eq]at C;rw[cw,<-Bool.not_eq_true,List.any_eq_true];rintro⟨s,R,l⟩;have:cw (be st) n.name=true:=by rw[cw,List.any_eq_true];exact⟨s,List.mem_of_mem_take R,by rw[C];exact l⟩
    rw[j]at this;cases this
def endPos(all:List Nd)(r:Option (List Nd)):Int:=match r with|none=>-1|some r=>((all.length-r.length:Nat):Int)
def il(w:World)(bx:Nat)(part:Bool)(all:List Nd):Prop:=∃j cap,w.cell? ⟨bx,0,none⟩=some (.slice j all.length cap)/\w.cell? ⟨bx,1,none⟩=some (.bool part)/\all.length<=cap/\all.length<=4294967296/\(all≠[]->∃b o,j=some ⟨b,o,none⟩/\cV w b o all)
theorem il.carry{w w':World}{bx:Nat}{part:Bool}{all:List Nd}(h:il w bx part all)(I:ZW w w'):il w' bx part all:=by obtain⟨R,cap,J,T,U,h3,h4⟩:=h;have j:bx<w.heap.size:=World.block_lt_of_cell? w _ J;refine⟨R,cap,(I.cell (p:=⟨bx,_,none⟩) j).trans J,(I.cell (p:=⟨bx,_,none⟩) j).trans T,U,h3,fun C=>?_⟩;obtain⟨b,o,e,P⟩:=h4 C;cases all with|nil=>exact absurd rfl C|cons n l=>exact⟨b,o,e,P.carry P.lt I⟩
def lA(part:Bool)(f:Nat):Prop:=∀(st all:List Nd)(pos bx:Nat)(a d op:Int)(j:Value)(w:World),st.length+f=10->jm st->(∀n∈all,n.ok)->a=pos->pos<=all.length->d=(st.length+1:Nat)->op=dO st->il w bx part all->cH w j (be st)->(be st=[]->j=.slice none 0 0)->ZC 232 #[.pointer (some ⟨bx,0,none⟩),.int .i64 a,.int .i64 d,j,.int .i64 op] w fun e w'=>e=.returned (.int .i64 (endPos all (ahead (bC part) f st (all.drop pos))))/\ZW w w'
theorem ir{all:List Nd}{j:Nat}(h:j<all.length):all.drop j=all[j]::all.drop (j+1):=List.drop_eq_getElem_cons h
theorem Ja{all r:List Nd}{j:Nat}(h:r<:+all.drop j):r=all.drop (all.length-r.length):=List.suffix_iff_eq_drop.1 (h.trans (List.drop_suffix _ _))
theorem Jg(part:Bool)(f:Nat)(hf:lA part f)(st all:List Nd)(T bx m:Nat)(a0 mm d:Int)(rv:Value)(w:World)(a6:st.length+f=10)(bs:jm st)(ok:∀n∈all,n.ok)(ha:a0=T)(ax:T<=all.length)(bR:mm=m)(hm:m<=4)(hd:d=(st.length+1:Nat))(ao:dO st=(be st).length)(hx:il w bx part all)(hr:cH w rv (be st))(a7:be st=[]->rv=.slice none 0 0):Calls Tryz.prog 261 #[.pointer (some ⟨bx,0,none⟩),.int .i64 a0,.int .i64 mm,.int .i64 d,rv] w fun e w'=>e=.returned (.int .i64 (endPos all (bA (ahead (bC part) f st) m [] (all.drop T))))/\ZW w w':=by
 have HX:=aa hx;have HR:=aa hr;have HF:=aa hf;have HO:=aa ok;have HL:=aa a6;have bp:=aa bs;have bk:=aa ao;have HD:=aa hd;have HP:=aa ax;obtain⟨i0,hi,bv,bz,bB⟩:=info_parts Tryz.mF;have HI:=aa (And.intro hi (And.intro bv (And.intro bz bB)));obtain⟨cb,b4,rfl,cc,cd,-⟩:=hr;have a1:=aa a7;clear a7;obtain⟨go,bi⟩:∃go,ahead (bC part) f st=go:=⟨_,rfl⟩;rw[bi];have HG:=aa bi;subst ha bR;clear hx hf ok a6 bs ao hi bv bz bB bi hd ax;go_in;go_wp2;go_loopw[1,2,11](fun at_ many aN wr=>∃(k pos:Nat)(ls:List ByteArray),k<=m/\at_=.int .i64 pos/\many=.int .i64 ((m-k:Nat):Int)/\ls.length=k/\pos<=all.length/\wr.ownsRow w.heap.size 9 1 aN ls.length (ls.map Value.string)/\ZW w wr/\bA go (m-k) ls (all.drop pos)=bA go m [] (all.drop T))(fun _ many _ _=>(intOf many).toNat);case atStart=>exact⟨0,T,[],Nat.zero_le _,rfl,rfl,rfl,HP.out,⟨rfl,.inr ⟨w.heap.size,0,#[],rfl,Nat.le_refl _,by show(w.heap.push _)[w.heap.size]?=_;simp,Nat.le_refl _,by unfold maxLen;omega,rfl,rfl⟩⟩,aO _ _,rfl⟩
 case round=>
  obtain⟨k,pos,ls,hk,rfl,rfl,br,ax,aq,U,a5⟩:=hrel;have bb:=aa br;have a2:=aa aq;have J:=aa U;have I:=aa a5;have R:=U.size;have bM:=aa (HX.out.carry U);have ah:=aa (eA aq (by omega));clear br aq U a5;obtain⟨cf,b5,x0,x1,x2,x3,x4⟩:=bM.out;have bn:=aa x4;have ca:bx<wr.heap.size:=World.block_lt_of_cell? wr _ x0;clear x4;by_cases bN:k<m;·
   have hq:decide ((0:Int)<((m-k:Nat):Int))=true:=decide_eq_true (by omega);by_cases aM:pos<all.length;·
    have b0:decide ((all.length:Int)<=(pos:Int))=false:=decide_eq_false (by omega);obtain⟨b,o,rfl,a8⟩:=bn.out (by intro h;simp[h]at aM);have an:=a8.get pos aM;obtain⟨C,aL⟩:∃C,C=all[pos]:=⟨_,rfl⟩;have l:=aa (show all.drop pos=C::all.drop (pos+1)by rw[aL];exact ir aM);have af:=aa (show C.ok by rw[aL];exact HO.out _ (List.getElem_mem aM));rw[<-aL]at an;clear aL;obtain⟨c0,c1,c2,c3,c4⟩:=an;have b7:b<wr.heap.size:=World.block_lt_of_cell? wr _ c0;clear a8;by_cases q1:C.op=4;·
     have b1:(C.op !=4)=false:=by rw[q1];rfl
     have Q1:=aa q1;clear q1;cases hw:cX C.name;·have HW:=aa hw;clear hw;go_wp2_with(first|(go_at_call 259;refine(iy C.name _ af.out.1).mono ?_;rintro e w1⟨rfl,rfl⟩;rw[HW.out]));go_ret;refine⟨bc ?_,J.out.trans ((aO _ _).mono R)⟩;rw[<-I.out,l.out,jO (by omega) (by simp[eE,HW.out])];rfl
     ·have HW:=aa hw;clear hw;cases hh:cw ls C.name;·
       have HH:=aa hh;clear hh;cases hs:ll C.sort;·have HS:=aa hs;clear hs;go_wp2_with(first|(go_at_call 259;refine(iy C.name _ af.out.1).mono ?_;rintro e w1⟨rfl,rfl⟩;rw[HW.out])|(go_at_call 131;refine(fD ls C.name _ _ (ah.out.carry (aO _ _))).mono ?_;rintro e w1⟨rfl,rfl⟩;rw[HH.out])|(go_at_call 178;refine(vp C.sort _).mono ?_;rintro e w1⟨rfl,rfl⟩;rw[HS.out]));go_ret;refine⟨bc ?_,J.out.trans ((aO _ _).mono R)⟩;rw[<-I.out,l.out,jO (by omega) (by simp[eE,HS.out])];rfl
       ·have HS:=aa hs;clear hs;by_cases q2:C.peer.toList=[];·
         by_cases q3:C.many=0;·
          have a4:=aa (show(eE C&&!cw ls C.name)=true by rw[eE,Q1.out,HW.out,HH.out,HS.out,q2,q3];rfl);have b2:(C.many !=0)=false:=by rw[q3];rfl
          clear q3;go_wp2_with(first|(go_at_call 259;refine(iy C.name _ af.out.1).mono ?_;rintro e w1⟨rfl,rfl⟩;rw[HW.out])|(go_at_call 131;refine(fD ls C.name _ _ (ah.out.carry (aO _ _))).mono ?_;rintro e w1⟨rfl,rfl⟩;rw[HH.out])|(go_at_call 178;refine(vp C.sort _).mono ?_;rintro e w1⟨rfl,rfl⟩;rw[HS.out])|(at_builtin;refine wpList_append_own _ rfl (.tmp 63) (.tmp 66) 42 rfl w.heap.size 9 i0 (.string .empty) 1 16 Tryz.underlying42 HI.out.1 HI.out.2.1 HI.out.2.2.1 HI.out.2.2.2 rfl (by decide) _ _ _ rfl ((a2.out.alloc _).alloc _) ⟨_,0,none⟩ 1 1 [.string C.name] rfl rfl ?c1 ?c2 ?c3 ?c4 ?c5 ?_));case c1=>intro j u hj;match j,hj with|0,hj=>simp at hj;subst hj;simp[Addr.add]
          case c2=>intro u hu;simp at hu;subst hu;rfl
          case c3=>have:=bb.out;unfold maxLen;omega
          case c4=>have:=bb.out;omega
          case c5=>simp;omega
          intro v' w3 av ac _;have bl:=aa av;have P:=aa (J.out.trans (((((aO _ _).mono R).alloc (by simp;omega) _)).grown ac (by simp;omega) (gZ a2.out)));have a9:=P.out.size;have aR:=aa (HX.out.carry P.out);have a3:=aa (HR.out.carry P.out);clear av ac;cases ab:go (all.drop (pos+1))with
           |none=>have ad:=aa ab;clear ab;have b3:decide (endPos all none<0)=true:=rfl;go_wp2_with(go_at_call 232;refine(HF.out st all (pos+1) bx _ _ _ _ _ HL.out bp.out HO.out (by omega) (by omega) HD.out (by rw[bk.out]) aR.out a3.out a1.out).mono ?_;rintro e w4⟨rfl,al⟩;rw[HG.out,ad.out,show endPos all none=-1 from rfl];have az:=aa al;clear al);go_ret;refine⟨bc ?_,P.out.trans (az.out.mono a9)⟩;rw[<-I.out,l.out,ph (by omega) a4.out ad.out];rfl|some r=>
            have ad:=aa ab;clear ab;have bm:=aa (Ja (fa (bC part) f st _ r (by rw[HG.out];exact ad.out)));obtain⟨bL,ay⟩:∃p2,all.length-r.length=p2:=⟨_,rfl⟩;have bf:=aa ay;clear ay;go_wp2_with(go_at_call 232;refine(HF.out st all (pos+1) bx _ _ _ _ _ HL.out bp.out HO.out (by omega) (by omega) HD.out (by rw[bk.out]) aR.out a3.out a1.out).mono ?_;rintro e w4⟨rfl,al⟩;rw[HG.out,ad.out,show endPos all (some r)=((all.length-r.length:Nat):Int)from rfl,bf.out];have az:=aa al;clear al);go_roundw;case rel=>
             refine⟨k+1,bL,ls++[C.name],by omega,rfl,?_,by have:=bb.out;simp;omega,by have:=bf.out;omega,?_,P.out.trans (az.out.mono a9),?_⟩;·congr 1;omega
             ·have:=jf bl.out az.out;simpa using this
             ·rw[<-I.out,l.out,uV bN a4.out ad.out];have:=bm.out;rw[bf.out]at this;rw[<-this]
            case measure=>simp[intOf];omega
         ·have b2:(C.many !=0)=true:=by rw[bne_iff_ne];exact q3
          go_wp2_with(first|(go_at_call 259;refine(iy C.name _ af.out.1).mono ?_;rintro e w1⟨rfl,rfl⟩;rw[HW.out])|(go_at_call 131;refine(fD ls C.name _ _ (ah.out.carry (aO _ _))).mono ?_;rintro e w1⟨rfl,rfl⟩;rw[HH.out])|(go_at_call 178;refine(vp C.sort _).mono ?_;rintro e w1⟨rfl,rfl⟩;rw[HS.out]));go_ret;refine⟨bc ?_,J.out.trans ((aO _ _).mono R)⟩;rw[<-I.out,l.out,jO (by omega) (by simp[eE,q3])];rfl
        ·clear Q1;go_wp2_with(first|(go_at_call 259;refine(iy C.name _ af.out.1).mono ?_;rintro e w1⟨rfl,rfl⟩;rw[HW.out])|(go_at_call 131;refine(fD ls C.name _ _ (ah.out.carry (aO _ _))).mono ?_;rintro e w1⟨rfl,rfl⟩;rw[HH.out])|(go_at_call 178;refine(vp C.sort _).mono ?_;rintro e w1⟨rfl,rfl⟩;rw[HS.out]));go_ret;refine⟨bc ?_,J.out.trans ((aO _ _).mono R)⟩;rw[<-I.out,l.out,jO (by omega) (by simp[eE,q2])];rfl
      ·have HH:=aa hh;clear hh;go_wp2_with(first|(go_at_call 259;refine(iy C.name _ af.out.1).mono ?_;rintro e w1⟨rfl,rfl⟩;rw[HW.out])|(go_at_call 131;refine(fD ls C.name _ _ (ah.out.carry (aO _ _))).mono ?_;rintro e w1⟨rfl,rfl⟩;rw[HH.out]));go_ret;refine⟨bc ?_,J.out.trans ((aO _ _).mono R)⟩;rw[<-I.out,l.out,jO (by omega) (by simp[eE,HH.out])];rfl
    ·have b1:(C.op !=4)=true:=by rw[bne_iff_ne];exact q1
     go_wp2;go_ret;refine⟨bc ?_,J.out.trans ((aO _ _).mono R)⟩;rw[<-I.out,l.out,jO (by omega) (by simp[eE,q1])];rfl
   ·have b0:decide ((all.length:Int)<=(pos:Int))=true:=decide_eq_true (by omega);go_wp2;go_ret;refine⟨bc ?_,J.out⟩;rw[<-I.out,List.drop_of_length_le (by omega),rV (by omega)];rfl
  ·have hq:decide ((0:Int)<((m-k:Nat):Int))=false:=decide_eq_false (by omega);go_wp2;go_ret;refine⟨bc ?_,J.out⟩;rw[<-I.out,show m-k=0 from by omega];simp[bA,endPos];omega
theorem iU{P:Program}{R:Array Oper}{o:Oper}{a:Act}{w:World}{K:Act->World->Prop}{Q:Exit->Act->World->Prop}{E:Prop}(hg:o.guard=none)(s x:Operand)(t:TypeId)(ac:o.op=Op.call {callee:=Callee.builtin Builtin.append,args:=#[s,x],argTypes:=#[t,t]})(base:Nat)(e:TypeId)(i:TypeInfo)(z:Value)(size bytes:Nat)(h1:P.underlying t=some (.slice e))(h2:P.info? e=some i)(h3:i.zero=some z)(h4:i.size=size)(h5:i.bytes=bytes)(h6:z.cells.size=size)(h7:0<size)(v:Value)(n:Nat)(xs:List Value)(hs:a.eval s=v)(I:w.ownsRow base e size v n xs)(U:Addr)(m c:Nat)(l:List Value)(hx:a.eval x=.slice (some U) m c)(hn:l.length=m*size)(hc:∀j u,l[j]?=some u->w.cell? (U.add j)=some u)(ab:∀u∈l,u.oneCell'=true)(b1:n+m<=maxLen)(b2:(n+m)*bytes<=140737488355328)(C:base<=w.heap.size)(hK:∀T w',w'.ownsRow base e size T (n+m) (xs++l)->w.grownBy w' v.ownBlock->K (a.put o.dst T) w'):if Region.wanted o (yielded R a.tmps)=true then Oper.wp P o a w K Q else E:=by
 have hw:Region.wanted o (yielded R a.tmps)=true:=by simp[Region.wanted,hg]
 rw[if_pos hw];obtain⟨T,w',J,r1,r2,_⟩:=run_append_own (P:=P) w base t o.type e i z size bytes h1 h2 h3 h4 h5 h6 h7 v n xs I U m c l hn hc ab b1 b2 C;unfold Oper.wp;simp[execOp,ac,resolve,invoke,builtin,hs,hx,J,Result.andThen];exact hK T w' r1 r2
theorem pM{P:Program}{C:Array Oper}{o:Oper}{a:Act}{w:World}{K:Act->World->Prop}{Q:Exit->Act->World->Prop}{E:Prop}(T:o.guard=none)(s x:Operand)(t:TypeId)(I:o.op=Op.call {callee:=Callee.builtin Builtin.append,args:=#[s,x],argTypes:=#[t,t]})(base:Nat)(e:TypeId)(i:TypeInfo)(size:Nat)(h1:P.underlying t=some (.slice e))(h2:P.info? e=some i)(v:Value)(n:Nat)(J:List Value)(U:a.eval s=v)(j:w.ownsRow base e size v n J)(hx:a.eval x=.slice none 0 0)(R:K (a.put o.dst v) w):if Region.wanted o (yielded C a.tmps)=true then Oper.wp P o a w K Q else E:=by
 have hw:Region.wanted o (yielded C a.tmps)=true:=by simp[Region.wanted,T]
 rw[if_pos hw];have l:=run_append_owned_none (P:=P) (w:=w) base t o.type e i size h1 h2 v n J j;unfold Oper.wp;simp[execOp,I,resolve,invoke,builtin,U,hx,l,Result.andThen];exact R
theorem cH.take{w:World}{C:Option Addr}{cap k:Nat}{ls:List ByteArray}(h:cH w (.slice C ls.length cap) ls)(U:k<=ls.length):cH w (.slice C k cap) (ls.take k):=by
 obtain⟨P,J,e,h1,h2,R⟩:=h;cases e;refine⟨C,cap,by rw[List.length_take,Nat.min_eq_left U],by rw[List.length_take];omega,by rw[List.length_take];omega,fun j=>?_⟩;have l:ls≠[]:=by intro h;rw[h]at j;exact j (by simp)
 obtain⟨b,o,rfl,T⟩:=R l;refine⟨b,o,rfl,fun i hi=>?_⟩;have I:i<ls.length:=by rw[List.length_take]at hi;omega
 rw[List.getElem_take];exact T i I
theorem ku{all:List Nd}{j:Nat}(h:j<all.length):endPos all (some (all.drop (j+1)))=(j:Int)+1:=by simp only[endPos,List.length_drop];omega
structure Wv where
 sts:List aP
 eds:List aC
 fs:ByteArray->Int
def eF(j:Int):Int:=if j==5 then 1 else if j==6 then 2 else 0
def dy(go:List Nd->Wv->Int×List Nd×Wv)(s:Int):Nat->List Nd->Wv->List Nd×Wv|0,l,W=>(l,W)|_+1,[],W=>([],W)|k+1,c::l,W=>dy go s k (go l W).2.1 ⟨(go l W).2.2.sts,(go l W).2.2.eds++[⟨s,c.name,c.sort,(go l W).1⟩],(go l W).2.2.fs⟩
def wv:Nat->List Nd->Wv->Int×List Nd×Wv|_,[],W=>(0,[],W)|0,n::l,W=>if n.op==1 then(W.fs n.name,l,W)else((W.sts.length:Int),l,⟨W.sts++[⟨eF n.op,n.peer⟩],W.eds,W.fs⟩)|f+1,n::l,W=>if n.op==1 then(W.fs n.name,l,W)else if n.op==2 then wv f l ⟨W.sts,W.eds,fun x=>if x=n.name then(W.sts.length:Int)else W.fs x⟩else((W.sts.length:Int),dy (wv f) (W.sts.length:Int) n.many.toNat l ⟨W.sts++[⟨eF n.op,n.peer⟩],W.eds,W.fs⟩)
def gd:List ByteArray->List Int->ByteArray->Int|x::ns,z::fis,t=>if x.toList==t.toList then z else gd ns fis t|_,_,_=>0
def bK(ns:List ByteArray)(fis:List Int)(len:Int):List Nd->Int|[]=>0|n::l=>if n.op==1 then gd ns fis n.name else if n.op==2 then bK ns fis len l else len
def gW(e:aC)(l:List aC):List aC:=l.takeWhile (fun x=>bS x e)++e::l.dropWhile (fun x=>bS x e)
def fh(go:List Nd->List aP×List aC->List Nd×List aP×List aC)(j:List Nd->Nat->Int)(s:Int):Nat->List Nd->List aP×List aC->List Nd×List aP×List aC|0,l,S=>(l,S)|_+1,[],S=>([],S)|k+1,c::l,S=>fh go j s k (go l (S.1,gW ⟨s,c.name,c.sort,j l S.1.length⟩ S.2)).1 (go l (S.1,gW ⟨s,c.name,c.sort,j l S.1.length⟩ S.2)).2
def sv:Nat->List ByteArray->List Int->List Nd->List aP×List aC->List Nd×List aP×List aC|_,_,_,[],S=>([],S)|0,_,_,n::l,S=>if n.op==1 then(l,S)else(l,S.1++[⟨eF n.op,n.peer⟩],S.2)|f+1,ns,fis,n::l,S=>if n.op==1 then(l,S)else if n.op==2 then sv f (ns++[n.name]) (fis++[bK (ns++[n.name]) (fis++[0]) S.1.length l]) l S else fh (sv f ns fis) (fun l k=>bK ns fis k l) (S.1.length:Int) n.many.toNat l (S.1++[⟨eF n.op,n.peer⟩],S.2)
def fH:List Nd->Bool|[]=>false|n::l=>if n.op==1 then true else if n.op==2 then fH l else false
structure Inv(st l:List Nd)(fs:ByteArray->Int)(ns:List ByteArray)(fis:List Int):Prop where
 names:ns=be st
 len:fis.length=ns.length
 said:∀t,eR false st t=true->fs t=gd ns fis t
 open_:fH l=false->∀t,bW st t=true->fs t=gd ns fis t
theorem gj{a b:ByteArray}:(a.toList==b.toList)=true↔a=b:=by
 constructor;·intro h;have h:=beq_iff_eq.1 h;rw[Go.ByteArray.toList_eq,Go.ByteArray.toList_eq]at h;apply ByteArray.ext;exact Array.ext' h
 ·rintro rfl;simp
theorem pw{ns:List ByteArray}{fis:List Int}(j:fis.length=ns.length)(x:ByteArray)(z:Int)(t:ByteArray):gd (ns++[x]) (fis++[z]) t=if cw ns t then gd ns fis t else if x.toList==t.toList then z else 0:=by
 induction ns generalizing fis with
  |nil=>have:fis=[]:=List.length_eq_zero_iff.1 j;subst this;simp[gd,cw]|cons y ns ih=>
   match fis,j with
    |u::fis,j=>
     have l:fis.length=ns.length:=by simpa using j
     rw[List.cons_append,List.cons_append,gd,ih l,gd];by_cases h:(y.toList==t.toList)=true;·rw[if_pos h,if_pos (by simp[cw]at h|-;simp[h]),if_pos h]
     ·rw[if_neg h];have:cw (y::ns) t=cw ns t:=by simp only[cw,List.any_cons];rw[Bool.eq_false_iff.2 h];rfl
      rw[this,if_neg h]
theorem pZ{ns:List ByteArray}{fis:List Int}{k:Int}:∀{l:List Nd},l≠[]->fH l=false->(∀n∈l,True)->bK ns fis k l=k\/(∀n∈l,n.op=2)
 |[],h,_,_=>absurd rfl h|n::l,_,j,_=>by
  unfold fH at j;unfold bK;by_cases J:(n.op==1)=true;·rw[if_pos J]at j;cases j
  ·rw[if_neg J]at j|-;by_cases C:(n.op==2)=true;·
    rw[if_pos C]at j|-;cases l with
     |nil=>right;intro m P;simp at P;subst P;simpa using C|cons m l=>
      rcases pZ (ns:=ns) (fis:=fis) (k:=k) (l:=m::l) (by simp) j (fun _ _=>trivial)with h|h;·exact .inl h
      ·right;intro x I;rcases List.mem_cons.1 I with rfl|I;·simpa using C
       ·exact h x I
   ·rw[if_neg C];exact .inl rfl
theorem jI{T:Nd->Bool}:∀(f:Nat)(st l r:List Nd),ahead T f st l=some r->¬(∀n∈l,n.op=2):=by
 intro f;induction f with
  |zero=>intro st l r h j;cases l with|nil=>cases h|cons n l=>have C:=j n (by simp);rw[fG C]at h;cases h
  |succ f ih=>
   intro st l r h j;cases l with
    |nil=>cases h|cons n l=>
     have C:=j n (by simp);rw[dC C]at h;split at h;·exact ih _ _ _ h (fun m I=>j m (by simp[I]))
     ·cases h
theorem Bw{T:Nd->Bool}{f:Nat}{st l r:List Nd}{ns:List ByteArray}{fis:List Int}{k:Int}(h:ahead T f st l=some r)(j:fH l=false):bK ns fis k l=k:=by
 rcases pZ (ns:=ns) (fis:=fis) (k:=k) (l:=l) (by rintro rfl;cases f<;>cases h) j (fun _ _=>trivial)with e|e;·exact e
 ·exact absurd e (jI f st l r h)
theorem wT(e:aC)(l:List aC):(gW e l).Perm (e::l):=by unfold gW;refine List.perm_middle.trans ?_;rw[List.takeWhile_append_dropWhile]
theorem pk:∀{ns:List ByteArray}{fis:List Int}{t:ByteArray},cw ns t=false->gd ns fis t=0|[],_,_,_=>by simp[gd]|_::_,[],_,_=>by simp[gd]|x::ns,z::fis,t,h=>by simp only[cw,List.any_cons,Bool.or_eq_false_iff]at h;rw[gd,if_neg (by rw[h.1];simp)];exact pk h.2
theorem xd{ns:List ByteArray}{fis:List Int}(l:fis.length=ns.length){x:ByteArray}{z:Int}{t:ByteArray}(h:(x.toList==t.toList)=false):gd (ns++[x]) (fis++[z]) t=gd ns fis t:=by
 rw[pw l,h];cases j:cw ns t;·rw[pk j];simp
 ·simp
theorem tO{T:Nd->Bool}:∀(f:Nat)(st l r:List Nd)(ns:List ByteArray)(fis:List Int)(x:ByteArray)(z k:Int),ahead T f st l=some r->fis.length=ns.length->eR false st x=false->bK (ns++[x]) (fis++[z]) k l=bK ns fis k l:=by
 intro f;induction f with
  |zero=>
   intro st l r ns fis x z k h hl I;cases l with
    |nil=>rfl|cons n l=>
     unfold bK;by_cases j:(n.op==1)=true;·
      rw[if_pos j,if_pos j];rw[dv (by simpa using j)]at h;split at h;·
       rename_i J;simp only[Bool.and_eq_true]at J;refine xd hl ?_;cases P:(x.toList==n.name.toList);·rfl
       ·rw[gj.1 P,J.2]at I;cases I
      ·cases h
     ·rw[if_neg j,if_neg j];by_cases C:(n.op==2)=true;·rw[fG (by simpa using C)]at h;cases h
      ·rw[if_neg C,if_neg C]
  |succ f ih=>
   intro st l r ns fis x z k h hl I;cases l with
    |nil=>rfl|cons n l=>
     unfold bK;by_cases j:(n.op==1)=true;·
      rw[if_pos j,if_pos j];rw[dv (by simpa using j)]at h;split at h;·
       rename_i J;simp only[Bool.and_eq_true]at J;refine xd hl ?_;cases P:(x.toList==n.name.toList);·rfl
       ·rw[gj.1 P,J.2]at I;cases I
      ·cases h
     ·rw[if_neg j,if_neg j];by_cases C:(n.op==2)=true;·
       rw[if_pos C,if_pos C];rw[dC (by simpa using C)]at h;split at h;·
        refine ih (n::st) l r ns fis x z k h hl ?_;rw[eR,if_pos C];split;·rfl
        ·exact I
       ·cases h
      ·rw[if_neg C,if_neg C]
structure Iw(st:List Nd)(fs:ByteArray->Int)(sts:List aP)(eds E:List aC)(o:List Nd×Wv)(p:List Nd×List aP×List aC)(r:List Nd):Prop where ex:∃new fs' sts' E',o=(r,⟨sts',eds++new,fs'⟩)/\p=(r,sts',E')/\E'.Perm (E++new)/\(∀t,bW st t=true->fs' t=fs t)/\sts.length<=sts'.length
def Jz(f:Nat):Prop:=∀(st l r:List Nd)(fs:ByteArray->Int)(sts:List aP)(eds E:List aC)(ns:List ByteArray)(fis:List Int),ahead (bC true) f st l=some r->jm st->Inv st l fs ns fis->(wv f l ⟨sts,eds,fs⟩).1=bK ns fis sts.length l/\Iw st fs sts eds E (wv f l ⟨sts,eds,fs⟩).2 (sv f ns fis l (sts,E)) r
theorem mi{st l:List Nd}{fs:ByteArray->Int}{sts:List aP}{eds E:List aC}(x:List aP):Iw st fs sts eds E (l,⟨sts++x,eds,fs⟩) (l,sts++x,E) l:=⟨[],fs,sts++x,E,by simp,rfl,by simp,fun _ _=>rfl,by simp⟩
theorem tX{f:Nat}(hf:Jz f){st:List Nd}{ns:List ByteArray}{fis:List Int}(ad:jm st)(ab:ns=be st)(hl:fis.length=ns.length)(I:∀t,eR false st t=true->bW st t=true)(s:Int):∀(m:Nat)(ls:List ByteArray)(l r:List Nd)(fs:ByteArray->Int)(sts:List aP)(eds E:List aC),bA (ahead (bC true) f st) m ls l=some r->(∀t,bW st t=true->fs t=gd ns fis t)->Iw st fs sts eds E (dy (wv f) s m l ⟨sts,eds,fs⟩) (fh (sv f ns fis) (fun l k=>bK ns fis k l) s m l (sts,E)) r
 |0,ls,l,r,fs,sts,eds,E,h,_=>by rw[bA]at h;injection h with h;subst h;exact⟨[],fs,sts,E,by simp[dy],by simp[fh],by simp,fun _ _=>rfl,Nat.le_refl _⟩|m+1,ls,[],r,fs,sts,eds,E,h,_=>by cases h|m+1,ls,c::l,r,fs,sts,eds,E,h,P=>by
  rw[bA]at h;split at h;·
   split at h;·cases h
   ·rename_i r1 ay;have U:Inv st l fs ns fis:=⟨ab,hl,fun t J=>P t (I t J),fun _ t J=>P t J⟩;obtain⟨e1,j,an,ah,E1,ho,hp,ax,R,az⟩:=hf st l r1 fs sts eds (gW ⟨s,c.name,c.sort,bK ns fis sts.length l⟩ E) ns fis ay ad U;obtain⟨C,ao,al,E2,aq,av,ac,T,af⟩:=tX hf ad ab hl I s m (ls++[c.name]) r1 r an ah ((eds++j)++[⟨s,c.name,c.sort,bK ns fis sts.length l⟩]) E1 h (fun t J=>(R t J).trans (P t J));refine⟨j++[⟨s,c.name,c.sort,bK ns fis sts.length l⟩]++C,ao,al,E2,?_,?_,?_,fun t J=>(T t J).trans (R t J),Nat.le_trans az af⟩;·rw[dy,e1,ho];simp only;rw[aq];simp[List.append_assoc]
    ·rw[fh];simp only;rw[hp];exact av
    ·refine ac.trans ?_;refine(List.Perm.append_right C (ax.trans (List.Perm.append_right j (wT _ _)))).trans ?_;rw[List.append_assoc,<-List.append_assoc E];refine List.Perm.trans ?_ (List.Perm.of_eq (by simp[List.append_assoc]:(E++j)++([⟨s,c.name,c.sort,bK ns fis sts.length l⟩]++C)=_));show(_::(E++(j++C))).Perm _;rw[<-List.append_assoc];exact(List.perm_middle (a:=(⟨s,c.name,c.sort,bK ns fis sts.length l⟩:aC)) (l₁:=E++j) (l₂:=C)).symm
  ·cases h
theorem jS(st:List Nd)(j:jm st)(t:ByteArray)(h:eR false st t=true):bW st t=true:=by rw[mL st t j]at h;rw[fY];simp only[cw,List.any_eq_true]at h|-;obtain⟨x,C,l⟩:=h;exact⟨x,List.mem_of_mem_take C,l⟩
theorem F6{n:Nd}{st l:List Nd}{fs:ByteArray->Int}{ns:List ByteArray}{fis:List Int}{len z:Int}(R:n.op=2)(P:bW st n.name=false)(ac:jm st)(h:Inv st (n::l) fs ns fis)(hz:fH l=false->z=len):Inv (n::st) l (fun x=>if x=n.name then len else fs x) (ns++[n.name]) (fis++[z]):=by
 have T:(n.op==2)=true:=by rw[R];rfl
 have U:fH (n::l)=fH l:=by rw[fH,if_neg (by rw[R];decide),if_pos T]
 have ab:cw ns n.name=false:=by rw[h.names,<-fY];exact P
 have J:∀t,bW st t=true->cw ns t=true:=fun t j=>by rw[h.names,<-fY];exact j
 refine⟨by rw[be,if_pos T,h.names],by simp[h.len],fun t j=>?_,fun hc t j=>?_⟩;·
  rw[eR,if_pos T]at j;split at j;·cases j
  ·rename_i ad;have I:=jS st ac t j;have C:t≠n.name:=fun e=>by rw[e,P]at I;cases I
   show(if t=n.name then len else fs t)=_;rw[if_neg C,pw h.len,if_pos (J t I)];exact h.said t j
 ·show(if t=n.name then len else fs t)=_;rw[pw h.len];by_cases C:t=n.name;·rw[if_pos C,C,ab,hz hc];simp
  ·rw[if_neg C];have I:bW st t=true:=by
    rw[bW,List.any_cons,Bool.or_eq_true]at j;rcases j with j|j;·simp only[Bool.and_eq_true]at j;exact absurd (gj.1 j.2).symm C
    ·exact j
   rw[if_pos (J t I)];exact h.open_ (by rw[U];exact hc) t I
theorem Il:∀f:Nat,Jz f:=by
 intro f;induction f with
  |zero=>
   intro st l r fs sts eds E ns fis h U j;cases l with
    |nil=>cases h|cons n l=>
     rw[wv,sv,bK];by_cases C:(n.op==1)=true;·
      rw[if_pos C,if_pos C,if_pos C];rw[dv (by simpa using C)]at h;split at h;·rename_i P;simp only[Bool.and_eq_true]at P;injection h with h;subst h;exact⟨j.said _ P.2,by simpa using mi (st:=st) (l:=l) (fs:=fs) (sts:=sts) (eds:=eds) (E:=E) []⟩
      ·cases h
     ·rw[if_neg C,if_neg C,if_neg C];by_cases h0:n.op=0;·
       rw[da h0]at h;split at h;·injection h with h;subst h;rw[if_neg (by rw[h0];decide)];exact⟨rfl,mi _⟩
       ·cases h
      ·rw[fm h0 (by simpa using C)]at h;cases h
  |succ f ih=>
   intro st l r fs sts eds E ns fis h U j;cases l with
    |nil=>cases h|cons n l=>
     rw[wv,sv,bK];by_cases C:(n.op==1)=true;·
      rw[if_pos C,if_pos C,if_pos C];rw[dv (by simpa using C)]at h;split at h;·rename_i P;simp only[Bool.and_eq_true]at P;injection h with h;subst h;exact⟨j.said _ P.2,by simpa using mi (st:=st) (l:=l) (fs:=fs) (sts:=sts) (eds:=eds) (E:=E) []⟩
      ·cases h
     ·rw[if_neg C,if_neg C,if_neg C];by_cases J:(n.op==2)=true;·
       rw[if_pos J,if_pos J,if_pos J];have ac:n.op=2:=by simpa using J
       rw[dC ac]at h;split at h;·
        rename_i P;simp only[Bool.and_eq_true,Bool.not_eq_true']at P;have af:=P.2;have I:jm (n::st):=⟨.inr ⟨ac,by rw[<-fY];exact af⟩,U⟩;have al:eR false (n::st) n.name=false:=by rw[eR,if_pos J,if_pos (by simp)]
        have ax:=tO f (n::st) l r ns fis n.name 0 sts.length h j.len al;have hi:=F6 (len:=(sts.length:Int)) (z:=bK (ns++[n.name]) (fis++[0]) sts.length l) ac af U j (fun hc=>Bw h hc);obtain⟨e1,new,ab,R,E',ho,hp,ah,ad,an⟩:=ih (n::st) l r _ sts eds E _ _ h I hi;refine⟨e1.trans (tO f (n::st) l r ns fis n.name _ sts.length h j.len al),new,ab,R,E',ho,hp,ah,fun t T=>?_,an⟩;have av:t≠n.name:=fun e=>by rw[e,af]at T;cases T
        have:=ad t (by rw[bW,List.any_cons];rw[bW]at T;rw[T];simp);rw[this];show(if t=n.name then _ else fs t)=_;rw[if_neg av]
       ·cases h
      ·rw[if_neg J,if_neg J,if_neg J];have ao:∀t,bW (n::st) t=bW st t:=fun t=>by rw[bW,List.any_cons,Bool.eq_false_iff.2 J];simp[bW]
       have aq:fH (n::l)=false:=by rw[fH,if_neg C,if_neg J]
       by_cases h0:n.op=0;·
        rw[da h0]at h;split at h;·
         rename_i P;injection h with h;subst h;have hm:n.many.toNat=0:=by simp only[iu,Bool.and_eq_true,beq_iff_eq]at P;rw[P.1.2];rfl
         rw[hm,dy,fh];exact⟨rfl,mi _⟩
        ·cases h
       ·rw[fA h0 (by simpa using C) (by simpa using J)]at h;split at h;·
         have I:jm (n::st):=⟨.inl (by simpa using J),U⟩;have hr:be (n::st)=be st:=by rw[be,if_neg J]
         obtain⟨new,ab,R,E',ho,hp,ah,ad,an⟩:=tX ih (st:=n::st) (ns:=ns) (fis:=fis) I (by rw[hr];exact j.names) j.len (fun t T=>jS _ I t T) (sts.length:Int) n.many.toNat [] l r fs (sts++[⟨eF n.op,n.peer⟩]) eds E h (fun t T=>j.open_ aq t (by rw[<-ao];exact T));refine⟨rfl,new,ab,R,E',ho,hp,ah,fun t T=>ad t (by rw[ao];exact T),?_⟩;have:(sts++[(⟨eF n.op,n.peer⟩:aP)]).length=sts.length+1:=by simp
         omega
        ·cases h
structure Kh(lo hi:Nat)(new:List aC):Prop where
 Fx:∀e∈new,(lo:Int)<=e.src/\e.src<(hi:Int)
 two:new.Pairwise fun a b=>¬(a.src=b.src/\a.label=b.label)
def Hm(f:Nat):Prop:=∀(st l r:List Nd)(fs:ByteArray->Int)(sts:List aP)(eds:List aC),ahead (bC true) f st l=some r->∃new C j i,wv f l ⟨sts,eds,fs⟩=(i,r,⟨j,eds++new,C⟩)/\sts.length<=j.length/\Kh sts.length j.length new
theorem wW{f:Nat}(hf:Hm f)(st:List Nd)(s:Nat):∀(m:Nat)(ls:List ByteArray)(l r:List Nd)(fs:ByteArray->Int)(sts:List aP)(eds:List aC),bA (ahead (bC true) f st) m ls l=some r->s<sts.length->∃new ad j,dy (wv f) (s:Int) m l ⟨sts,eds,fs⟩=(r,⟨j,eds++new,ad⟩)/\sts.length<=j.length/\(∀e∈new,(e.src=(s:Int)/\cw ls e.label=false)\/((sts.length:Int)<=e.src/\e.src<(j.length:Int)))/\new.Pairwise (fun a b=>¬(a.src=b.src/\a.label=b.label))
 |0,ls,l,r,fs,sts,eds,h,_=>by rw[bA]at h;injection h with h;subst h;exact⟨[],fs,sts,by simp[dy],Nat.le_refl _,by simp,List.Pairwise.nil⟩|m+1,ls,[],r,fs,sts,eds,h,_=>by cases h|m+1,ls,c::l,r,fs,sts,eds,h,hs=>by
  rw[bA]at h;split at h;·
   rename_i R;simp only[Bool.and_eq_true,Bool.not_eq_true']at R;split at h;·cases h
   ·rename_i r1 ao;obtain⟨I,af,ab,i,ho,av,hn⟩:=hf st l r1 fs sts eds ao;obtain⟨T,ah,ac,al,aq,J,an⟩:=wW hf st s m (ls++[c.name]) r1 r af ab ((eds++I)++[⟨(s:Int),c.name,c.sort,i⟩]) h (by omega);refine⟨I++[⟨(s:Int),c.name,c.sort,i⟩]++T,ah,ac,?_,by omega,fun e C=>?_,?_⟩;·rw[dy,ho];simp only;rw[al];simp[List.append_assoc]
    ·rw[List.mem_append,List.mem_append]at C;rcases C with(C|C)|C;·have:=hn.Fx e C;right;omega
     ·simp at C;subst C;left;exact⟨rfl,R.2⟩
     ·rcases J e C with⟨q1,U⟩|q;·left;rw[kM,Bool.or_eq_false_iff]at U;exact⟨q1,U.1⟩
      ·right;omega
    ·rw[List.pairwise_append,List.pairwise_append];refine⟨⟨hn.two,List.pairwise_singleton _ _,fun a ha b P hk=>?_⟩,an,fun a ha b P hk=>?_⟩;·simp at P;subst P;have:=hn.Fx a ha;simp only at hk;omega
     ·rw[List.mem_append]at ha;rcases ha with ha|ha;·
       have q:=hn.Fx a ha;rcases J b P with⟨q1,_⟩|q1;·omega
       ·omega
      ·simp at ha;subst ha;simp only at hk;rcases J b P with⟨_,U⟩|q1;·rw[kM,Bool.or_eq_false_iff]at U;have:=U.2;rw[hk.2]at this;simp[cw]at this
       ·omega
  ·cases h
theorem Ef:∀f:Nat,Hm f:=by
 intro f;induction f with
  |zero=>
   intro st l r fs sts eds h;cases l with
    |nil=>cases h|cons n l=>
     rw[wv];by_cases j:(n.op==1)=true;·
      rw[if_pos j];rw[dv (by simpa using j)]at h;split at h;·injection h with h;subst h;exact⟨[],fs,sts,fs n.name,by simp,Nat.le_refl _,by simp,List.Pairwise.nil⟩
      ·cases h
     ·rw[if_neg j];by_cases C:n.op=0;·
       rw[da C]at h;split at h;·injection h with h;subst h;exact⟨[],fs,_,_,by rw[List.append_nil],by simp,by simp,List.Pairwise.nil⟩
       ·cases h
      ·rw[fm C (by simpa using j)]at h;cases h
  |succ f ih=>
   intro st l r fs sts eds h;cases l with
    |nil=>cases h|cons n l=>
     rw[wv];by_cases j:(n.op==1)=true;·
      rw[if_pos j];rw[dv (by simpa using j)]at h;split at h;·injection h with h;subst h;exact⟨[],fs,sts,fs n.name,by simp,Nat.le_refl _,by simp,List.Pairwise.nil⟩
      ·cases h
     ·rw[if_neg j];by_cases J:(n.op==2)=true;·
       rw[if_pos J];rw[dC (by simpa using J)]at h;split at h;·exact ih (n::st) l r _ sts eds h
       ·cases h
      ·rw[if_neg J];by_cases C:n.op=0;·
        rw[da C]at h;split at h;·
         rename_i U;injection h with h;subst h;have hm:n.many.toNat=0:=by simp only[iu,Bool.and_eq_true,beq_iff_eq]at U;rw[U.1.2];rfl
         rw[hm,dy];exact⟨[],fs,_,_,by rw[List.append_nil],by simp,by simp,List.Pairwise.nil⟩
        ·cases h
       ·rw[fA C (by simpa using j) (by simpa using J)]at h;split at h;·
         obtain⟨new,P,I,ho,T,hr,hp⟩:=wW ih (n::st) sts.length n.many.toNat [] l r fs (sts++[⟨eF n.op,n.peer⟩]) eds h (by simp);have R:(sts++[(⟨eF n.op,n.peer⟩:aP)]).length=sts.length+1:=by simp
         rw[R]at T hr;refine⟨new,P,I,_,by rw[ho],by omega,fun e he=>?_,hp⟩;rcases hr e he with⟨q,_⟩|q;·omega
         ·omega
        ·cases h
theorem kg{w w':World}{row:Option Nat}(C:w.grownBy w' row)(a:Addr)(j:a.block<w.heap.size)(l:some a.block≠row):w'.cell? a=w.cell? a:=World.cell?_of_block (C.block a.block j l)
theorem pN{P:Program}{U:Array Oper}{o:Oper}{a:Act}{w:World}{K:Act->World->Prop}{Q:Exit->Act->World->Prop}{E:Prop}(hg:o.guard=none)(s2:Operand)(v2:Value)(_:a.eval s2=v2)(s x:Operand)(t:TypeId)(T:o.op=Op.call {callee:=Callee.builtin Builtin.append,args:=#[s,x],argTypes:=#[t,t]})(base:Nat)(e:TypeId)(i:TypeInfo)(z:Value)(size bytes:Nat)(h1:P.underlying t=some (.slice e))(h2:P.info? e=some i)(h3:i.zero=some z)(h4:i.size=size)(h5:i.bytes=bytes)(h6:z.cells.size=size)(h7:0<size)(v:Value)(n:Nat)(xs:List Value)(hs:a.eval s=v)(I:w.ownsRow base e size v n xs)(J:Addr)(m c:Nat)(l:List Value)(hx:a.eval x=.slice (some J) m c)(hn:l.length=m*size)(hc:∀j u,l[j]?=some u->w.cell? (J.add j)=some u)(R:∀u∈l,u.oneCell'=true)(b1:n+m<=maxLen)(b2:(n+m)*bytes<=140737488355328)(C:base<=w.heap.size)(hK:∀v' w',w'.ownsRow base e size v' (n+m) (xs++l)->w.grownBy w' v.ownBlock->K (a.put o.dst v') w'):if Region.wanted o (yielded U a.tmps)=true then Oper.wp P o a w K Q else E:=iU hg s x t T base e i z size bytes h1 h2 h3 h4 h5 h6 h7 v n xs hs I J m c l hx hn hc R b1 b2 C hK
theorem kz(ls:List ByteArray):∀u∈ls.map Value.string,u.oneCell'=true:=by intro u hu;obtain⟨s,_,rfl⟩:=List.mem_map.1 hu;rfl
theorem ml{w C:World}{l ro:Nat}{ls:List ByteArray}(T:∀i(h:i<ls.length),w.cell? ⟨l,ro+i,none⟩=some (.string ls[i]))(R:ZW w C)(j:Nat)(u:Value)(h:(ls.map Value.string)[j]?=some u):C.cell? ((⟨l,ro,none⟩:Addr).add j)=some u:=by
 rw[List.getElem?_map]at h;obtain⟨s,hs,rfl⟩:=Option.map_eq_some_iff.1 h;obtain⟨U,rfl⟩:=List.getElem?_eq_some_iff.1 hs;have J:=T j U;have P:C.cell? ⟨l,ro+j,none⟩=some (.string ls[j]):=(R.cell (p:=⟨l,_,none⟩) (World.block_lt_of_cell? w _ J)).trans J;have e:(⟨l,ro,none⟩:Addr).add j=⟨l,ro+j,none⟩:=by unfold Addr.add;by_cases I:j=0<;>simp[I]
 rw[e];exact P
theorem vB(x:Int)(j:-1000<=x)(l:x<=8589934592):IntKind.i64.wrap x=x:=by rw[IntKind.wrap_i64];omega
theorem eS(W:World)(v:Value)(t:TypeId)(k:Nat)(h:k=W.heap.size):(W.alloc (.cells #[v] t)).cell? ⟨k,0,none⟩=some v:=by subst h;simp
theorem nV(W:World)(o:Obj)(k:Nat)(h:k<W.heap.size):(W.alloc o).cell? ⟨k,0,none⟩=W.cell? ⟨k,0,none⟩:=World.cell?_alloc_past o k 0 h
theorem ga(W:World)(o:Obj)(k:Nat)(h:k=W.heap.size):(W.alloc o).heap[k]?=some o:=by subst h;show(W.heap.push o)[W.heap.size]?=_;simp
theorem oh(W:World)(o:Obj)(k:Nat)(h:k<W.heap.size):(W.alloc o).heap[k]?=W.heap[k]?:=Below.heap_alloc W o k h
theorem jg(W:World)(base e g:Nat)(j:base<=g)(h:W.heap[g]?=some (.cells #[] e (0,0))):W.ownsRow base e 1 (.slice (some ⟨g,0,none⟩) 0 0) 0 []:=⟨rfl,.inr ⟨g,0,#[],rfl,j,h,Nat.le_refl _,by unfold maxLen;omega,rfl,rfl⟩⟩
theorem l6{W:World}{C:Addr}{v:Value}(h:W.cell? C=some v):∀j u,([v]:List Value)[j]?=some u->W.cell? (C.add j)=some u:=by intro j u l;match j,l with|0,l=>simp at l;subst l;simpa[Addr.add]using h
theorem one_cell(s:ByteArray):∀u∈[Value.string s],u.oneCell'=true:=by intro u hu;simp at hu;subst hu;rfl
theorem yt(w:World)(n:Nd)(t:TypeId):cZ (w.alloc (.cells #[.int .i64 n.op,.string n.name,.string n.peer,.int .i64 n.many,.int .i64 n.sort] t)) w.heap.size 0 n:=by simp[cZ]
theorem uo{n:Nd}{st:List Nd}(h:n.op≠2):be (n::st)=be st:=by simp[be,h]
def eQ(w:World)(v:Value)(ls:List ByteArray):Prop:=∃b o cap,v=.slice (some ⟨b,o,none⟩) ls.length cap/\ls.length<=cap/\cap<=maxLen/\∀i(h:i<ls.length),w.cell? ⟨b,o+i,none⟩=some (.string ls[i])
def iG(s t:ByteArray):Bool:=Op.bytesLess s.toList t.toList
def hU:List ByteArray->ByteArray->Nat|[],_=>0|s::ls,t=>if iG s t then hU ls t+1 else 0
def df(ls:List ByteArray)(t:ByteArray):List ByteArray:=if cw ((ls.drop (hU ls t)).take 1) t then ls else ls.take (hU ls t)++[t]++ls.drop (hU ls t)
theorem sG:∀(ls:List ByteArray)(t:ByteArray)(k:Nat),k<=ls.length->(∀j(h:j<ls.length),j<k->iG ls[j] t=true)->(∀h:k<ls.length,iG ls[k] t=false)->hU ls t=k|[],t,k,l,_,_=>by simp at l;subst l;rfl|s::ls,t,0,_,_,h2=>by have:=h2 (by simp);simp at this;simp[hU,this]|s::ls,t,k+1,l,I,h2=>by have C:=I 0 (by simp) (by omega);simp at C;have ih:=sG ls t k (by simpa using l) (fun j h J=>by have:=I (j+1) (by simpa using h) (by omega);simpa using this) (fun h=>by have:=h2 (by simpa using h);simpa using this);rw[hU,if_pos C,ih]
theorem EE{ls:List ByteArray}{t:ByteArray}{k:Nat}(C:hU ls t=k)(l:k<ls.length)(j:(ls[k].toList==t.toList)=true):df ls t=ls:=by
 have e:(ls.drop k).take 1=[ls[k]]:=by rw[List.drop_eq_getElem_cons l];rfl
 rw[df,C,e,if_pos];simp only[cw,List.any_cons,List.any_nil,Bool.or_false];exact j
theorem AG{ls:List ByteArray}{t:ByteArray}{k:Nat}(C:hU ls t=k)(l:∀j:k<ls.length,(ls[k].toList==t.toList)=false):df ls t=ls.take k++[t]++ls.drop k:=by
 rw[df,C,if_neg];by_cases j:k<ls.length;·
  have e:(ls.drop k).take 1=[ls[k]]:=by rw[List.drop_eq_getElem_cons j];rfl
  rw[e];simp only[cw,List.any_cons,List.any_nil,Bool.or_false,l j];decide
 ·rw[List.drop_of_length_le (by omega)];simp[cw]
theorem kX{w:World}{base e:Nat}{v:Value}{ls:List ByteArray}(h:w.ownsRow base e 1 v ls.length (ls.map Value.string))(J:ls≠[]):eQ w v ls:=by
 obtain⟨_,hv⟩:=h;rcases hv with⟨rfl,P⟩|⟨g,cap,j,rfl,hg,T,U,C,ab,l⟩;·exact absurd (List.length_eq_zero_iff.1 P) J
 ·refine⟨g,0,cap,rfl,U,C,fun i hi=>?_⟩;have R:j.toList[i]?=some (.string ls[i]):=by
   have I:(j.toList.take (ls.length*1))[i]?=(ls.map Value.string)[i]?:=by rw[l]
   rw[List.getElem?_take,if_pos (by omega)]at I;rw[I];simp[hi]
  have I:j[i]?=some (.string ls[i]):=by rw[<-R];simp
  simp only[World.cell?,T];simpa using I
theorem AM(ls:List ByteArray)(t:ByteArray)(v:Value)(w:World)(hv:eQ w v ls)(hl:ls.length<=100):Calls Tryz.prog 124 #[v,.string t] w fun e w'=>∃v',e=.returned v'/\eQ w' v' (df ls t)/\ZW w w':=by
 have HV:=aa hv;obtain⟨b,o,cap,rfl,hc,hm,aq⟩:=hv;obtain⟨i0,hi,a2,ao,af⟩:=info_parts Tryz.mF;have P:=aa (And.intro hi (And.intro a2 (And.intro ao af)));have HC:=aa aq;have HM:=aa hm;clear aq hm hi a2 ao af;go_in;go_wp2;go_loop[5](fun i=>∃k:Nat,k<=ls.length/\i=.int .i64 k/\∀j(h:j<ls.length),j<k->iG ls[j] t=true)(fun i=>ls.length-(intOf i).toNat);case atStart=>exact⟨0,Nat.zero_le _,rfl,fun j _ h=>absurd h (by omega)⟩
 case round=>
  obtain⟨k,hk,rfl,aN⟩:=hrel;have HA:=aa aN;clear aN;by_cases aM:k<ls.length;·
   have a4:=HC.out k aM;obtain⟨s,hs⟩:∃s,s=ls[k]:=⟨_,rfl⟩;rw[<-hs]at a4;have aL:=aa hs;clear hs;cases av:Op.bytesLess s.toList t.toList;·
    have a0:=aa (show iG ls[k] t=false by rw[<-aL.out];exact av);have ay:=aa (sG ls t k hk HA.out (fun _=>a0.out));cases heq:(s.toList==t.toList);·
     have az:=aa (AG ay.out (fun _=>by rw[<-aL.out];exact heq));have ah:Hid (∀W',ZW w W'->∀j u,((ls.take k).map Value.string)[j]?=some u->W'.cell? ((⟨b,o,none⟩:Addr).add j)=some u):=aa (fun W' hb j u h=>ml (ls:=ls.take k) (fun i hi=>by rw[List.getElem_take];exact HC.out i (by simp at hi;omega)) hb j u h);by_cases aR:cap=k;·exfalso;omega
     ·have a1:Hid (∀W',ZW w W'->∀j u,((ls.drop k).map Value.string)[j]?=some u->W'.cell? ((⟨b,o+k,none⟩:Addr).add j)=some u):=aa (fun W' hb j u h=>ml (ls:=ls.drop k) (fun i hi=>by rw[List.getElem_drop,Nat.add_assoc];exact HC.out (k+i) (by simp at hi;omega)) hb j u h);go_wp2_with(first|(at_builtin;refine wpList_append_own _ rfl (.tmp 34) (.tmp 37) 42 rfl w.heap.size 9 i0 (.string .empty) 1 16 Tryz.underlying42 P.out.1 P.out.2.1 P.out.2.2.1 P.out.2.2.2 rfl (by decide) (.slice (some ⟨w.heap.size,0,none⟩) 0 0) 0 [] rfl (jg _ _ _ _ (Nat.le_refl _) (ga _ _ _ rfl)) ⟨b,o,none⟩ k cap ((ls.take k).map Value.string) rfl (by first|(simp;done)|(simp;omega)) (ah.out _ (aO _ _)) (kz _) (by unfold maxLen;omega) (by omega) (by simp) ?_;intro v1 w1 l C _;simp only[Nat.zero_add,List.nil_append]at l;have ac:=aa l;have ab:Hid (ZW w w1):=aa ((aO _ _).grown C (by simp) (by intro k hk;simp[Value.ownBlock]at hk;omega));have ao:w.heap.size<=w1.heap.size:=ab.out.size;clear l C)|(at_builtin;refine wpList_append_own _ rfl (.tmp 39) (.tmp 41) 42 rfl w.heap.size 9 i0 (.string .empty) 1 16 Tryz.underlying42 P.out.1 P.out.2.1 P.out.2.2.1 P.out.2.2.2 rfl (by decide) v1 k ((ls.take k).map Value.string) rfl (ac.out.alloc _) ⟨w1.heap.size,0,none⟩ 1 1 [.string t] rfl rfl (l6 (eS _ _ _ _ rfl)) (one_cell _) (by unfold maxLen;omega) (by omega) (by first|(simp;done)|(simp;omega)) ?_;intro v2 w2 R I _;have ad:=aa R;have U:Hid (ZW w w2):=aa ((ab.out.alloc ao _).grown I (by first|(simp;done)|(simp;omega)) (gZ ac.out));have af:w.heap.size<=w2.heap.size:=U.out.size;clear R I)|(at_builtin;refine wpList_append_own _ rfl (.tmp 43) (.tmp 46) 42 rfl w.heap.size 9 i0 (.string .empty) 1 16 Tryz.underlying42 P.out.1 P.out.2.1 P.out.2.2.1 P.out.2.2.2 rfl (by decide) v2 (k+1) ((ls.take k).map Value.string++[.string t]) rfl ad.out ⟨b,o+k,none⟩ (ls.length-k) (cap-k) ((ls.drop k).map Value.string) rfl (by simp) (a1.out _ U.out) (kz _) (by unfold maxLen;omega) (by omega) af ?_;intro v3 w3 T J _;have an:=aa T;have al:Hid (ZW w w3):=aa (U.out.grown J af (gZ ad.out));clear T J));go_ret;refine⟨_,rfl,?_,al.out⟩;rw[az.out];refine kX (base:=w.heap.size) (e:=9) ?_ (by simp);have:=an.out;have ax:k+1+(ls.length-k)=(ls.take k++[t]++ls.drop k).length:=by simp;omega
      rw[ax]at this;simpa using this
    ·have a3:=aa (EE ay.out aM (by rw[<-aL.out];exact heq));go_wp2;go_ret;exact⟨_,rfl,by rw[a3.out];exact HV.out,Below.refl _ _⟩
   ·have a0:=aa (show iG ls[k] t=true by rw[<-aL.out];exact av);go_wp2;go_round;case rel=>
     exact⟨k+1,by omega,by go_num,fun j h hj=>by
      rcases Nat.lt_or_ge j k with h1|h1;·exact HA.out j h h1
      ·have:j=k:=by omega
       subst this;exact a0.out⟩
    case measure=>simp[intOf];omega
  ·have ay:=aa (sG ls t k hk HA.out (fun h=>absurd h aM));have az:=aa (AG ay.out (fun h=>absurd h aM));obtain rfl:k=ls.length:=by omega
   have ah:Hid (∀W',ZW w W'->∀j u,((ls.take ls.length).map Value.string)[j]?=some u->W'.cell? ((⟨b,o,none⟩:Addr).add j)=some u):=aa (fun W' hb j u h=>ml (ls:=ls.take ls.length) (fun i hi=>by rw[List.getElem_take];exact HC.out i (by simp at hi;omega)) hb j u h);by_cases aR:cap=ls.length;·
    subst aR;go_wp2_with(first|(at_builtin;refine wpList_append_own _ rfl (.tmp 34) (.tmp 37) 42 rfl w.heap.size 9 i0 (.string .empty) 1 16 Tryz.underlying42 P.out.1 P.out.2.1 P.out.2.2.1 P.out.2.2.2 rfl (by decide) (.slice (some ⟨w.heap.size,0,none⟩) 0 0) 0 [] rfl (jg _ _ _ _ (Nat.le_refl _) (ga _ _ _ rfl)) ⟨b,o,none⟩ ls.length ls.length ((ls.take ls.length).map Value.string) rfl (by first|(simp;done)|(simp;omega)) (ah.out _ (aO _ _)) (kz _) (by unfold maxLen;omega) (by omega) (by simp) ?_;intro v1 w1 l C _;simp only[Nat.zero_add,List.nil_append]at l;have ac:=aa l;have ab:Hid (ZW w w1):=aa ((aO _ _).grown C (by simp) (by intro k hk;simp[Value.ownBlock]at hk;omega));have ao:w.heap.size<=w1.heap.size:=ab.out.size;clear l C)|(at_builtin;refine wpList_append_own _ rfl (.tmp 39) (.tmp 41) 42 rfl w.heap.size 9 i0 (.string .empty) 1 16 Tryz.underlying42 P.out.1 P.out.2.1 P.out.2.2.1 P.out.2.2.2 rfl (by decide) v1 ls.length ((ls.take ls.length).map Value.string) rfl (ac.out.alloc _) ⟨w1.heap.size,0,none⟩ 1 1 [.string t] rfl rfl (l6 (eS _ _ _ _ rfl)) (one_cell _) (by unfold maxLen;omega) (by omega) (by first|(simp;done)|(simp;omega)) ?_;intro v2 w2 R I _;have ad:=aa R;have U:Hid (ZW w w2):=aa ((ab.out.alloc ao _).grown I (by first|(simp;done)|(simp;omega)) (gZ ac.out));have af:w.heap.size<=w2.heap.size:=U.out.size;clear R I)|(at_builtin;refine wpList_append_own _ rfl (.tmp 43) (.tmp 46) 42 rfl w.heap.size 9 i0 (.string .empty) 1 16 Tryz.underlying42 P.out.1 P.out.2.1 P.out.2.2.1 P.out.2.2.2 rfl (by decide) v2 (ls.length+1) ((ls.take ls.length).map Value.string++[.string t]) rfl ad.out ⟨b,o,none⟩ 0 0 [] rfl rfl (fun j u h=>by simp at h) (fun u h=>by simp at h) (by unfold maxLen;omega) (by omega) af ?_;intro v3 w3 T J _;have an:=aa T;have al:Hid (ZW w w3):=aa (U.out.grown J af (gZ ad.out));clear T J));go_ret;refine⟨_,rfl,?_,al.out⟩;rw[az.out];refine kX (base:=w.heap.size) (e:=9) ?_ (by simp);have:=an.out;have ax:ls.length+1+0=(ls.take ls.length++[t]++ls.drop ls.length).length:=by simp
    rw[ax]at this;simpa using this
   ·go_wp2_with(first|(at_builtin;refine wpList_append_own _ rfl (.tmp 34) (.tmp 37) 42 rfl w.heap.size 9 i0 (.string .empty) 1 16 Tryz.underlying42 P.out.1 P.out.2.1 P.out.2.2.1 P.out.2.2.2 rfl (by decide) (.slice (some ⟨w.heap.size,0,none⟩) 0 0) 0 [] rfl (jg _ _ _ _ (Nat.le_refl _) (ga _ _ _ rfl)) ⟨b,o,none⟩ ls.length cap ((ls.take ls.length).map Value.string) rfl (by first|(simp;done)|(simp;omega)) (ah.out _ (aO _ _)) (kz _) (by unfold maxLen;omega) (by omega) (by simp) ?_;intro v1 w1 l C _;simp only[Nat.zero_add,List.nil_append]at l;have ac:=aa l;have ab:Hid (ZW w w1):=aa ((aO _ _).grown C (by simp) (by intro k hk;simp[Value.ownBlock]at hk;omega));have ao:w.heap.size<=w1.heap.size:=ab.out.size;clear l C)|(at_builtin;refine wpList_append_own _ rfl (.tmp 39) (.tmp 41) 42 rfl w.heap.size 9 i0 (.string .empty) 1 16 Tryz.underlying42 P.out.1 P.out.2.1 P.out.2.2.1 P.out.2.2.2 rfl (by decide) v1 ls.length ((ls.take ls.length).map Value.string) rfl (ac.out.alloc _) ⟨w1.heap.size,0,none⟩ 1 1 [.string t] rfl rfl (l6 (eS _ _ _ _ rfl)) (one_cell _) (by unfold maxLen;omega) (by omega) (by first|(simp;done)|(simp;omega)) ?_;intro v2 w2 R I _;have ad:=aa R;have U:Hid (ZW w w2):=aa ((ab.out.alloc ao _).grown I (by first|(simp;done)|(simp;omega)) (gZ ac.out));have af:w.heap.size<=w2.heap.size:=U.out.size;clear R I)|(at_builtin;refine wpList_append_own _ rfl (.tmp 43) (.tmp 46) 42 rfl w.heap.size 9 i0 (.string .empty) 1 16 Tryz.underlying42 P.out.1 P.out.2.1 P.out.2.2.1 P.out.2.2.2 rfl (by decide) v2 (ls.length+1) ((ls.take ls.length).map Value.string++[.string t]) rfl ad.out ⟨b,o+ls.length,none⟩ 0 (cap-ls.length) [] rfl rfl (fun j u h=>by simp at h) (fun u h=>by simp at h) (by unfold maxLen;omega) (by omega) af ?_;intro v3 w3 T J _;have an:=aa T;have al:Hid (ZW w w3):=aa (U.out.grown J af (gZ ad.out));clear T J));go_ret;refine⟨_,rfl,?_,al.out⟩;rw[az.out];refine kX (base:=w.heap.size) (e:=9) ?_ (by simp);have:=an.out;have ax:ls.length+1+0=(ls.take ls.length++[t]++ls.drop ls.length).length:=by simp
    rw[ax]at this;simpa using this
theorem Hw(part:Bool)(f:Nat)(st all:List Nd)(C bx:Nat)(a d op:Int)(rv:Value)(w:World)(R:st.length+f=10)(ac:jm st)(ok:∀n∈all,n.ok)(ha:a=C)(P:C<all.length)(hd:d=(st.length+1:Nat))(an:op=dO st)(hx:il w bx part all)(hr:cH w rv (be st))(T:be st=[]->rv=.slice none 0 0)(name l:ByteArray)(many I:Int)(hn:all[C]=⟨0,name,l,many,I⟩):Calls Tryz.prog 232 #[.pointer (some ⟨bx,0,none⟩),.int .i64 a,.int .i64 d,rv,.int .i64 op] w fun e w'=>e=.returned (.int .i64 (endPos all (ahead (bC part) f st (all.drop C))))/\ZW w w':=by
 have HX:=aa hx;have HR:=aa hr;have HO:=aa ok;have HL:=aa R;have az:=aa ac;have ao:=aa T;obtain⟨i0,hi,ad,af,ah⟩:=info_parts Tryz.mF;have HI:=aa (And.intro hi (And.intro ad (And.intro af ah)));obtain⟨a5,aq,rfl,a6,a7,-⟩:=hr;subst ha hd an;obtain⟨a8,av,x0,x1,x2,x3,x4⟩:=hx;obtain⟨b,o,rfl,U⟩:=x4 (by intro h;simp[h]at P);have J:=U.get C P;have j:=aa (show all.drop C=⟨0,name,l,many,I⟩::all.drop (C+1)by rw[<-hn];exact ir P);have ax:=aa (show Nd.ok ⟨0,name,l,many,I⟩by rw[<-hn];exact HO.out _ (List.getElem_mem P));have ab:=aa (ku P);rw[hn]at J;obtain⟨c0,c1,c2,c3,c4⟩:=J;dsimp only at c0 c1 c2 c3 c4;have aM:b<w.heap.size:=World.block_lt_of_cell? w _ c0;have al:bx<w.heap.size:=World.block_lt_of_cell? w _ x0;have aL:Hid (∀ob,(w.alloc ob).cell? ⟨bx,1,none⟩=some (.bool part)):=aa (fun ob=>((aO w ob).cell (p:=⟨bx,1,none⟩) al).trans x1);have a0:decide ((all.length:Int)<=(C:Int))=false:=decide_eq_false (by omega);have aN:st.length<=10:=by omega
 have ay:=aa (fB st);have aR:dO st<=(be st).length:=fB st;have a1:(be st).length<=10:=by have:=jz st;omega
 clear U hn ok R ac x4 hi ad af ah T;by_cases q1:l.toList=[];·
  by_cases q2:many=0;·
   by_cases q3:I=0;·
    skip;by_cases q4:name.toList=[];·go_in;go_wp2;go_ret;refine⟨bc ?_,(by repeat(first|exact aO _ _|exact Below.refl _ _|refine Below.drew ?_))⟩;rw[j.out,da rfl,if_pos (by simp[iu, *])];exact ab.out
    ·go_in;go_wp2;all_goals go_ret;refine⟨bc ?_,(by repeat(first|exact aO _ _|exact Below.refl _ _|refine Below.drew ?_))⟩;rw[j.out,da rfl];first|(rw[if_neg (by simp[iu, *])];rfl)|(rw[if_pos (by simp[iu, *])];exact ab.out)
   ·have a4:(I==0)=false:=beq_eq_false_iff_ne.2 q3;go_in;go_wp2;go_ret;refine⟨bc ?_,(by repeat(first|exact aO _ _|exact Below.refl _ _|refine Below.drew ?_))⟩;rw[j.out,da rfl,if_neg (by simp[iu, *])];rfl
  ·have a3:(many==0)=false:=beq_eq_false_iff_ne.2 q2;go_in;go_wp2;go_ret;refine⟨bc ?_,(by repeat(first|exact aO _ _|exact Below.refl _ _|refine Below.drew ?_))⟩;rw[j.out,da rfl,if_neg (by simp[iu, *])];rfl
 ·have a2:(l.toList==[])=false:=beq_eq_false_iff_ne.2 q1;go_in;go_wp2;go_ret;refine⟨bc ?_,(by repeat(first|exact aO _ _|exact Below.refl _ _|refine Below.drew ?_))⟩;rw[j.out,da rfl,if_neg (by simp[iu, *])];rfl
theorem Dl(part:Bool)(f:Nat)(st all:List Nd)(I bx:Nat)(a d op:Int)(rv:Value)(w:World)(ab:st.length+f=10)(ao:jm st)(ok:∀n∈all,n.ok)(ha:a=I)(R:I<all.length)(hd:d=(st.length+1:Nat))(aL:op=dO st)(hx:il w bx part all)(hr:cH w rv (be st))(ac:be st=[]->rv=.slice none 0 0)(name l:ByteArray)(many C:Int)(U:f=0\/(iR ⟨2,name,l,many,C⟩&&!bW st name)=false)(hn:all[I]=⟨2,name,l,many,C⟩):Calls Tryz.prog 232 #[.pointer (some ⟨bx,0,none⟩),.int .i64 a,.int .i64 d,rv,.int .i64 op] w fun e w'=>e=.returned (.int .i64 (endPos all (ahead (bC part) f st (all.drop I))))/\ZW w w':=by
 have HX:=aa hx;have HR:=aa hr;have HO:=aa ok;have HL:=aa ab;have a2:=aa ao;have aM:=aa ac;obtain⟨i0,hi,av,ax,ay⟩:=info_parts Tryz.mF;have HI:=aa (And.intro hi (And.intro av (And.intro ax ay)));obtain⟨bk,aN,rfl,bl,bm,-⟩:=hr;subst ha hd aL;obtain⟨bn,aR,x0,x1,x2,x3,x4⟩:=hx;obtain⟨b,o,rfl,ad⟩:=x4 (by intro h;simp[h]at R);have P:=ad.get I R;have j:=aa (show all.drop I=⟨2,name,l,many,C⟩::all.drop (I+1)by rw[<-hn];exact ir R);have af:=aa (show Nd.ok ⟨2,name,l,many,C⟩by rw[<-hn];exact HO.out _ (List.getElem_mem R));have a1:=aa (ku R);rw[hn]at P;obtain⟨c0,c1,c2,c3,c4⟩:=P;dsimp only at c0 c1 c2 c3 c4;have a4:b<w.heap.size:=World.block_lt_of_cell? w _ c0;have az:bx<w.heap.size:=World.block_lt_of_cell? w _ x0;have a3:Hid (∀ob,(w.alloc ob).cell? ⟨bx,1,none⟩=some (.bool part)):=aa (fun ob=>((aO w ob).cell (p:=⟨bx,1,none⟩) az).trans x1);have a8:decide ((all.length:Int)<=(I:Int))=false:=decide_eq_false (by omega);have a6:st.length<=10:=by omega
 have a0:=aa (fB st);have a7:dO st<=(be st).length:=fB st;have a9:(be st).length<=10:=by have:=jz st;omega
 clear ad hn ok ab ao x4 hi av ax ay ac;have ah:=aa U;clear U;have al:=aa (fY st name);obtain⟨wo,aq⟩:∃wo,cX name=wo:=⟨_,rfl⟩;obtain⟨am,an⟩:∃am,cw (be st) name=am:=⟨_,rfl⟩;have J:=aa aq;have T:=aa an;clear an aq;by_cases q1:l.toList=[];·
  by_cases q2:many=0;·
   by_cases q3:C=0;·
    skip;cases wo;·
     go_in;go_wp2_with(go_at_call 259;refine(iy name _ af.out.1).mono ?_;rintro e w1⟨rfl,rfl⟩;rw[J.out]);go_ret;refine⟨bc ?_,(by repeat(first|exact aO _ _|exact Below.refl _ _|refine Below.drew ?_))⟩;rw[j.out];cases f;·rw[fG rfl];rfl
     ·rw[dC rfl,if_neg (by simp[iR,J.out])];rfl
    ·cases am;·
      cases f with
       |zero=>have a5:decide ((st.length:Int)+1<=10)=false:=decide_eq_false (by have:=HL.out;omega);go_in;go_wp2_with(first|(go_at_call 259;refine(iy name _ af.out.1).mono ?_;rintro e w1⟨rfl,rfl⟩;rw[J.out])|(go_at_call 131;refine(fD (be st) name _ _ (HR.out.carry (by repeat(first|exact aO _ _|exact Below.refl _ _|refine Below.drew ?_)))).mono ?_;rintro e w1⟨rfl,rfl⟩;rw[T.out]));go_ret;refine⟨bc ?_,(by repeat(first|exact aO _ _|exact Below.refl _ _|refine Below.drew ?_))⟩;rw[j.out,fG rfl];rfl|succ f=>
        exfalso;rcases ah.out with h|h;·omega
        ·rw[al.out,T.out]at h;simp[iR,J.out,q1,q2,q3]at h
     ·go_in;go_wp2_with(first|(go_at_call 259;refine(iy name _ af.out.1).mono ?_;rintro e w1⟨rfl,rfl⟩;rw[J.out])|(go_at_call 131;refine(fD (be st) name _ _ (HR.out.carry (by repeat(first|exact aO _ _|exact Below.refl _ _|refine Below.drew ?_)))).mono ?_;rintro e w1⟨rfl,rfl⟩;rw[T.out]));go_ret;refine⟨bc ?_,(by repeat(first|exact aO _ _|exact Below.refl _ _|refine Below.drew ?_))⟩;rw[j.out];cases f;·rw[fG rfl];rfl
      ·rw[dC rfl,if_neg (by rw[al.out];simp[T.out])];rfl
   ·have bi:(C==0)=false:=beq_eq_false_iff_ne.2 q3;go_in;go_wp2;go_ret;refine⟨bc ?_,(by repeat(first|exact aO _ _|exact Below.refl _ _|refine Below.drew ?_))⟩;rw[j.out];cases f;·rw[fG rfl];rfl
    ·rw[dC rfl,if_neg (by simp[iR, *])];rfl
  ·have bf:(many==0)=false:=beq_eq_false_iff_ne.2 q2;go_in;go_wp2;go_ret;refine⟨bc ?_,(by repeat(first|exact aO _ _|exact Below.refl _ _|refine Below.drew ?_))⟩;rw[j.out];cases f;·rw[fG rfl];rfl
   ·rw[dC rfl,if_neg (by simp[iR, *])];rfl
 ·have bb:(l.toList==[])=false:=beq_eq_false_iff_ne.2 q1;go_in;go_wp2;go_ret;refine⟨bc ?_,(by repeat(first|exact aO _ _|exact Below.refl _ _|refine Below.drew ?_))⟩;rw[j.out];cases f;·rw[fG rfl];rfl
  ·rw[dC rfl,if_neg (by simp[iR, *])];rfl
def e9(j:List ByteArray)(n:Nd):List ByteArray:=let a:=if n.op==3 then df j n.name else j;if n.peer.toList==[]then a else df a n.peer
def aU(ns:List Nd):List ByteArray:=ns.foldl e9 []
theorem oL(ls:List ByteArray)(t:ByteArray):(df ls t).length<=ls.length+1:=by
 rw[df];split;·omega
 ·simp;omega
theorem y9{ns:List Nd}{k:Nat}(h:k<ns.length):(ns.take (k+1)).foldl e9 []=e9 ((ns.take k).foldl e9 []) ns[k]:=by rw[List.take_succ_eq_append_getElem h,List.foldl_append];rfl
theorem eQ.carry{w w':World}{v:Value}{ls:List ByteArray}(h:eQ w v ls)(J:ZW w w'):eQ w' v ls:=by obtain⟨b,o,cap,l,C,I,j⟩:=h;exact⟨b,o,cap,l,C,I,fun i hi=>(J.cell (p:=⟨b,_,none⟩) (World.block_lt_of_cell? w _ (j i hi))).trans (j i hi)⟩
theorem qU(ns:List Nd)(v:Value)(w:World)(hv:bF w w.heap.size v ns)(hl:ns.length<=40):Calls Tryz.prog 68 #[v] w fun e w'=>∃v',e=.returned v'/\eQ w' v' (aU ns)/\ZW w w':=by
 obtain⟨ao,cap,rfl,hc,hm,hr⟩:=hv;have HR:=aa hr;clear hr;go_in;go_wp2;go_loopw[3,4](fun out i wr=>∃k:Nat,k<=ns.length/\i=.int .i64 k/\eQ wr out ((ns.take k).foldl e9 [])/\((ns.take k).foldl e9 []).length<=2*k/\ZW w wr)(fun _ i _=>ns.length-(intOf i).toNat);case atStart=>exact⟨0,Nat.zero_le _,rfl,⟨w.heap.size,0,0,rfl,Nat.le_refl _,by unfold maxLen;omega,fun i h=>absurd h (by simp)⟩,by simp,aO _ _⟩
 case round=>
  obtain⟨k,hk,rfl,l,a8,af⟩:=hrel;obtain⟨j,ad⟩:∃j,j=(ns.take k).foldl e9 []:=⟨_,rfl⟩;rw[<-ad]at l a8;have T:=aa ad;have ac:=aa l;have J:=aa af;have al:=af.size;clear ad af;obtain⟨b1,o1,bb,rfl,a2⟩:=l;clear a2;by_cases ay:k<ns.length;·
   obtain⟨b,o,rfl,a5,ax⟩:=HR.out (by intro h;simp[h]at ay);have P:=(ax.get k ay).carry a5 J.out;obtain⟨C,az⟩:∃C,C=ns[k]:=⟨_,rfl⟩;rw[<-az]at P;have HN:=aa (show(ns.take (k+1)).foldl e9 []=e9 j C by rw[y9 ay,T.out,az]);have aM:=aa P;clear az ax;have aR:b<wr.heap.size:=P.lt;obtain⟨c0,c1,c2,c3,c4⟩:=P;obtain⟨aL,a0⟩:∃aL,(C.op==3)=aL:=⟨_,rfl⟩;obtain⟨pe,a6⟩:∃pe,(C.peer.toList==[])=pe:=⟨_,rfl⟩;have an:=aa a0;have aq:=aa a6;cases aL;·
    cases pe;·
     go_wp2_with(go_at_call 124;refine(AM j C.peer _ _ ac.out (by omega)).mono ?_;rintro e w1⟨v1,rfl,R,I⟩;have ab:=aa R;obtain⟨b2,o2,av,rfl,ah⟩:=R;have U:=aa I;clear ah I);go_roundw;case rel=>
      have l:e9 j C=df j C.peer:=by simp[e9,an.out,aq.out]
      refine⟨k+1,by omega,by go_num,by rw[HN.out,l];exact ab.out,by rw[HN.out,l];have:=oL j C.peer;omega,J.out.trans (U.out.mono al)⟩
     case measure=>simp[intOf];omega
    ·go_wp2;go_roundw;case rel=>
      have l:e9 j C=j:=by simp[e9,an.out,aq.out]
      refine⟨k+1,by omega,by go_num,by rw[HN.out,l];exact ac.out,by rw[HN.out,l];omega,J.out⟩
     case measure=>simp[intOf];omega
   ·cases pe;·
     go_wp2_with(first|(go_at_call_of 124 C.peer;refine(AM (df j C.name) C.peer _ _ ab.out (by have:=oL j C.name;omega)).mono ?_;rintro e w2⟨v2,rfl,a1,aN⟩;have a4:=aa a1;obtain⟨b3,o3,bf,rfl,a7⟩:=a1;have a3:=aa aN;clear a7 aN)|(go_at_call_of 124 C.name;refine(AM j C.name _ _ ac.out (by omega)).mono ?_;rintro e w1⟨v1,rfl,R,I⟩;have ab:=aa R;obtain⟨b2,o2,av,rfl,ah⟩:=R;have a9:=I.size;obtain⟨d0,d1,d2,d3,d4⟩:=aM.out.carry aR I;have U:=aa I;clear ah I));go_roundw;case rel=>
      have l:e9 j C=df (df j C.name) C.peer:=by simp[e9,an.out,aq.out]
      refine⟨k+1,by omega,by go_num,by rw[HN.out,l];exact a4.out,by rw[HN.out,l];have:=oL j C.name;have:=oL (df j C.name) C.peer;omega,J.out.trans ((U.out.mono al).trans (a3.out.mono (by omega)))⟩
     case measure=>simp[intOf];omega
    ·go_wp2_with(go_at_call 124;refine(AM j C.name _ _ ac.out (by omega)).mono ?_;rintro e w1⟨v1,rfl,R,I⟩;have ab:=aa R;obtain⟨b2,o2,av,rfl,ah⟩:=R;have a9:=I.size;obtain⟨d0,d1,d2,d3,d4⟩:=aM.out.carry aR I;have U:=aa I;clear ah I);go_roundw;case rel=>
      have l:e9 j C=df j C.name:=by simp[e9,an.out,aq.out]
      refine⟨k+1,by omega,by go_num,by rw[HN.out,l];exact ab.out,by rw[HN.out,l];have:=oL j C.name;omega,J.out.trans (U.out.mono al)⟩
     case measure=>simp[intOf];omega
  ·go_wp2;go_ret;refine⟨_,rfl,?_,J.out⟩;have:=ac.out;rw[T.out,List.take_of_length_le (by omega)]at this;have e:j.length=((ns.take k).foldl e9 []).length:=by rw[T.out]
   rw[e,List.take_of_length_le (by omega)];exact this
