import Derived.Test.YtdiiiijkhpdcbaaGreatDoorRV15
namespace Go.Proofs.YtdiiiijkhpdcbaaGreatDoor
open Go.RowKit
set_option linter.unusedSimpArgs false
set_option linter.unusedVariables false
set_option maxHeartbeats 1000000
set_option maxRecDepth 100000
def bd:List Nd->List ByteArray|[]=>[]|n::st=>if n.op==2 then bd st++[n.name]else bd st
def dK:List Nd->Nat|[]=>0|n::st=>if n.op==2 then dK st else(bd st).length
def je:List Nd->Prop|[]=>True|n::st=>(n.op≠2\/n.op=2/\cw (bd st) n.name=false)/\je st
theorem fB:∀st:List Nd,dK st<=(bd st).length|[]=>Nat.le_refl _|n::st=>by have:=fB st;rw[dK,bd];cases h:(n.op==2)<;>simp<;>omega
theorem kI(a b:List ByteArray)(t:ByteArray):cw (a++b) t=(cw a t||cw b t):=by simp[cw]
theorem js:∀st:List Nd,(bd st).length<=st.length|[]=>Nat.le_refl _|n::st=>by have:=js st;rw[bd];split<;>simp<;>omega
theorem fY:∀(st:List Nd)(t:ByteArray),bW st t=cw (bd st) t
 |[],_=>rfl|n::st,t=>by
  have:=fY st t;rw[bW]at*;rw[List.any_cons,this,bd];cases h:(n.op==2);·simp
  ·rw[if_pos rfl,kI];simp[cw,Bool.or_comm]
theorem te:∀(st:List Nd)(t:ByteArray),je st->eR true st t=cw (bd st) t
 |[],_,_=>rfl|n::st,t,h=>by
  have ih:=te st t h.2;rw[eR,bd];rcases h.1 with l|⟨j,I⟩;·simp[l,ih]
  ·have e:(n.op==2)=true:=by rw[j];rfl
   rw[e,if_pos rfl,if_pos rfl,kI,ih];cases C:(n.name.toList==t.toList)<;>simp[cw,C]
theorem mE:∀(st:List Nd)(t:ByteArray),je st->eR false st t=cw ((bd st).take (dK st)) t
 |[],_,_=>rfl|n::st,t,h=>by
  rw[eR,bd,dK];rcases h.1 with J|⟨I,j⟩;·simp[J,te st t h.2]
  ·have ih:=mE st t h.2;have P:=fB st;have e:(n.op==2)=true:=by rw[I];rfl
   rw[e];simp only[if_true];rw[List.take_append_of_le_length P];cases C:(n.name.toList==t.toList);·rw[if_neg (by decide)];exact ih
   ·rw[if_pos rfl];symm;rw[beq_iff_eq]at C;rw[cw,<-Bool.not_eq_true,List.any_eq_true];rintro⟨s,R,l⟩;have:cw (bd st) n.name=true:=by rw[cw,List.any_eq_true];exact⟨s,List.mem_of_mem_take R,by rw[C];exact l⟩
    rw[j]at this;cases this
def endPos(all:List Nd)(r:Option (List Nd)):Int:=match r with|none=>-1|some r=>((all.length-r.length:Nat):Int)
def hU(w:World)(C:Nat)(j:Bool)(all:List Nd):Prop:=∃l cap,w.cell? ⟨C,0,none⟩=some (.slice l all.length cap)/\w.cell? ⟨C,1,none⟩=some (.bool j)/\all.length<=cap/\all.length<=4294967296/\(all≠[]->∃b o,l=some ⟨b,o,none⟩/\cV w b o all)
theorem hU.carry{w w':World}{C:Nat}{j:Bool}{all:List Nd}(h:hU w C j all)(P:Below w.heap.size w w'):hU w' C j all:=by obtain⟨U,cap,R,h1,h2,h3,h4⟩:=h;have I:C<w.heap.size:=World.block_lt_of_cell? w _ R;refine⟨U,cap,(P.cell (p:=⟨C,_,none⟩) I).trans R,(P.cell (p:=⟨C,_,none⟩) I).trans h1,h2,h3,fun J=>?_⟩;obtain⟨b,o,e,T⟩:=h4 J;cases all with|nil=>exact absurd rfl J|cons n l=>exact⟨b,o,e,T.carry T.lt P⟩
def lq(j:Bool)(f:Nat):Prop:=∀(st all:List Nd)(pos bx:Nat)(a d op:Int)(l:Value)(w:World),st.length+f=10->je st->(∀n∈all,n.ok)->a=pos->pos<=all.length->d=(st.length+1:Nat)->op=dK st->hU w bx j all->cG w l (bd st)->(bd st=[]->l=.slice none 0 0)->Calls Tryz.prog 232 #[.pointer (some ⟨bx,0,none⟩),.int .i64 a,.int .i64 d,l,.int .i64 op] w fun e w'=>e=.returned (.int .i64 (endPos all (ahead (bC j) f st (all.drop pos))))/\Below w.heap.size w w'
theorem ib{all:List Nd}{j:Nat}(h:j<all.length):all.drop j=all[j]::all.drop (j+1):=List.drop_eq_getElem_cons h
theorem Iy{all:List Nd}{j:Nat}{r:List Nd}(h:r<:+all.drop j):r=all.drop (all.length-r.length):=List.suffix_iff_eq_drop.1 (h.trans (List.drop_suffix _ _))
theorem IG(T:Bool)(f:Nat)(hf:lq T f)(st all:List Nd)(U bx m:Nat)(a0 mm d:Int)(rv:Value)(w:World)(a7:st.length+f=10)(bv:je st)(ok:∀n∈all,n.ok)(ha:a0=U)(ay:U<=all.length)(b0:mm=m)(hm:m<=4)(hd:d=(st.length+1:Nat))(aq:dK st=(bd st).length)(hx:hU w bx T all)(hr:cG w rv (bd st))(a8:bd st=[]->rv=.slice none 0 0):Calls Tryz.prog 261 #[.pointer (some ⟨bx,0,none⟩),.int .i64 a0,.int .i64 mm,.int .i64 d,rv] w fun e w'=>e=.returned (.int .i64 (endPos all (bA (ahead (bC T) f st) m [] (all.drop U))))/\Below w.heap.size w w':=by
 have HX:=aa hx;have HR:=aa hr;have HF:=aa hf;have HO:=aa ok;have HL:=aa a7;have br:=aa bv;have bl:=aa aq;have HD:=aa hd;have HP:=aa ay;obtain⟨i0,hi,bz,bB,bL⟩:=info_parts Tryz.my;have HI:=aa (And.intro hi (And.intro bz (And.intro bB bL)));obtain⟨cc,b5,rfl,cd,cf,-⟩:=hr;have a2:=aa a8;clear a8;obtain⟨go,bk⟩:∃go,ahead (bC T) f st=go:=⟨_,rfl⟩;rw[bk];have HG:=aa bk;subst ha b0;clear hx hf ok a7 bv aq hi bz bB bL bk hd ay;go_enter Tryz.func261,Tryz.ntmps261;go_wp2_with fail;go_loopw[1,2,11](fun at_ many aR wr=>∃(k pos:Nat)(ls:List ByteArray),k<=m/\at_=.int .i64 pos/\many=.int .i64 ((m-k:Nat):Int)/\ls.length=k/\pos<=all.length/\wr.ownsRow w.heap.size 9 1 aR ls.length (ls.map Value.string)/\Below w.heap.size w wr/\bA go (m-k) ls (all.drop pos)=bA go m [] (all.drop U))(fun _ many _ _=>(intOf many).toNat);case atStart=>exact⟨0,U,[],Nat.zero_le _,rfl,rfl,rfl,HP.out,⟨rfl,.inr ⟨w.heap.size,0,#[],rfl,Nat.le_refl _,by show(w.heap.push _)[w.heap.size]?=_;simp,Nat.le_refl _,by unfold maxLen;omega,rfl,rfl⟩⟩,aO _ _,rfl⟩
 case round=>
  obtain⟨k,pos,ls,hk,rfl,rfl,bs,ay,av,ab,a6⟩:=hrel;have bf:=aa bs;have a3:=aa av;have J:=aa ab;have I:=aa a6;have R:=ab.size;have bN:=aa (HX.out.carry ab);have al:=aa (eA av (by omega));clear bs av ab a6;obtain⟨cg,b7,x0,x1,x2,x3,x4⟩:=bN.out;have bp:=aa x4;have cb:bx<wr.heap.size:=World.block_lt_of_cell? wr _ x0;clear x4;by_cases bR:k<m;·
   have hq:decide ((0:Int)<((m-k:Nat):Int))=true:=decide_eq_true (by omega);by_cases aN:pos<all.length;·
    have b1:decide ((all.length:Int)<=(pos:Int))=false:=decide_eq_false (by omega);obtain⟨b,o,rfl,a9⟩:=bp.out (by intro h;simp[h]at aN);have ao:=a9.get pos aN;obtain⟨C,aM⟩:∃C,C=all[pos]:=⟨_,rfl⟩;have l:=aa (show all.drop pos=C::all.drop (pos+1)by rw[aM];exact ib aN);have ah:=aa (show C.ok by rw[aM];exact HO.out _ (List.getElem_mem aN));rw[<-aM]at ao;clear aM;obtain⟨c0,c1,c2,c3,c4⟩:=ao;have ca:b<wr.heap.size:=World.block_lt_of_cell? wr _ c0;clear a9;by_cases q1:C.op=4;·
     have b2:(C.op !=4)=false:=by rw[q1];rfl
     have Q1:=aa q1;clear q1;cases hw:cX C.name;·have HW:=aa hw;clear hw;go_wp2_with(first|(go_at_call 259;refine(im C.name _ ah.out.1).mono ?_;rintro e w1⟨rfl,rfl⟩;rw[HW.out]));go_ret;refine⟨aY ?_,J.out.trans ((aO _ _).mono R)⟩;rw[<-I.out,l.out,jH (by omega) (by simp[eE,HW.out])];rfl
     ·have HW:=aa hw;clear hw;cases hh:cw ls C.name;·
       have HH:=aa hh;clear hh;cases hs:la C.sort;·have HS:=aa hs;clear hs;go_wp2_with(first|(go_at_call 259;refine(im C.name _ ah.out.1).mono ?_;rintro e w1⟨rfl,rfl⟩;rw[HW.out])|(go_at_call 131;refine(fD ls C.name _ _ (al.out.carry (aO _ _))).mono ?_;rintro e w1⟨rfl,rfl⟩;rw[HH.out])|(go_at_call 178;refine(vg C.sort _).mono ?_;rintro e w1⟨rfl,rfl⟩;rw[HS.out]));go_ret;refine⟨aY ?_,J.out.trans ((aO _ _).mono R)⟩;rw[<-I.out,l.out,jH (by omega) (by simp[eE,HS.out])];rfl
       ·have HS:=aa hs;clear hs;by_cases q2:C.peer.toList=[];·
         by_cases q3:C.many=0;·
          have a5:=aa (show(eE C&&!cw ls C.name)=true by rw[eE,Q1.out,HW.out,HH.out,HS.out,q2,q3];rfl);have b3:(C.many !=0)=false:=by rw[q3];rfl
          clear q3;go_wp2_with(first|(go_at_call 259;refine(im C.name _ ah.out.1).mono ?_;rintro e w1⟨rfl,rfl⟩;rw[HW.out])|(go_at_call 131;refine(fD ls C.name _ _ (al.out.carry (aO _ _))).mono ?_;rintro e w1⟨rfl,rfl⟩;rw[HH.out])|(go_at_call 178;refine(vg C.sort _).mono ?_;rintro e w1⟨rfl,rfl⟩;rw[HS.out])|(at_builtin;refine wpList_append_own _ rfl (.tmp 63) (.tmp 66) 42 rfl w.heap.size 9 i0 (.string ByteArray.empty) 1 16 Tryz.underlying42 HI.out.1 HI.out.2.1 HI.out.2.2.1 HI.out.2.2.2 rfl (by decide) _ _ _ rfl ((a3.out.alloc _).alloc _) ⟨_,0,none⟩ 1 1 [.string C.name] rfl rfl ?c1 ?c2 ?c3 ?c4 ?c5 ?_));case c1=>intro j u hj;match j,hj with|0,hj=>simp at hj;subst hj;simp[Addr.add]
          case c2=>intro u hu;simp at hu;subst hu;rfl
          case c3=>have:=bf.out;unfold maxLen;omega
          case c4=>have:=bf.out;omega
          case c5=>simp;omega
          intro v' w3 ax ad _;have bm:=aa ax;have P:=aa (J.out.trans (((((aO _ _).mono R).alloc (by simp;omega) _)).grown ad (by simp;omega) (gQ a3.out)));have bb:=P.out.size;have a1:=aa (HX.out.carry P.out);have a4:=aa (HR.out.carry P.out);clear ax ad;cases ac:go (all.drop (pos+1))with
           |none=>have af:=aa ac;clear ac;have b4:decide (endPos all none<0)=true:=rfl;go_wp2_with(go_at_call 232;refine(HF.out st all (pos+1) bx _ _ _ _ _ HL.out br.out HO.out (by omega) (by omega) HD.out (by rw[bl.out]) a1.out a4.out a2.out).mono ?_;rintro e w4⟨rfl,an⟩;rw[HG.out,af.out,show endPos all none=-1 from rfl];have aL:=aa an;clear an);go_ret;refine⟨aY ?_,P.out.trans (aL.out.mono bb)⟩;rw[<-I.out,l.out,oV (by omega) a5.out af.out];rfl|some r=>
            have af:=aa ac;clear ac;have bn:=aa (Iy (fg (bC T) f st _ r (by rw[HG.out];exact af.out)));obtain⟨bM,az⟩:∃p2,all.length-r.length=p2:=⟨_,rfl⟩;have bi:=aa az;clear az;go_wp2_with(go_at_call 232;refine(HF.out st all (pos+1) bx _ _ _ _ _ HL.out br.out HO.out (by omega) (by omega) HD.out (by rw[bl.out]) a1.out a4.out a2.out).mono ?_;rintro e w4⟨rfl,an⟩;rw[HG.out,af.out,show endPos all (some r)=((all.length-r.length:Nat):Int)from rfl,bi.out];have aL:=aa an;clear an);go_roundw;case rel=>
             refine⟨k+1,bM,ls++[C.name],by omega,rfl,?_,by have:=bf.out;simp;omega,by have:=bi.out;omega,?_,P.out.trans (aL.out.mono bb),?_⟩;·congr 1;omega
             ·have:=iY bm.out aL.out;simpa using this
             ·rw[<-I.out,l.out,uI bR a5.out af.out];have:=bn.out;rw[bi.out]at this;rw[<-this]
            case measure=>simp[intOf];omega
         ·have b3:(C.many !=0)=true:=by rw[bne_iff_ne];exact q3
          go_wp2_with(first|(go_at_call 259;refine(im C.name _ ah.out.1).mono ?_;rintro e w1⟨rfl,rfl⟩;rw[HW.out])|(go_at_call 131;refine(fD ls C.name _ _ (al.out.carry (aO _ _))).mono ?_;rintro e w1⟨rfl,rfl⟩;rw[HH.out])|(go_at_call 178;refine(vg C.sort _).mono ?_;rintro e w1⟨rfl,rfl⟩;rw[HS.out]));go_ret;refine⟨aY ?_,J.out.trans ((aO _ _).mono R)⟩;rw[<-I.out,l.out,jH (by omega) (by simp[eE,q3])];rfl
        ·clear Q1;go_wp2_with(first|(go_at_call 259;refine(im C.name _ ah.out.1).mono ?_;rintro e w1⟨rfl,rfl⟩;rw[HW.out])|(go_at_call 131;refine(fD ls C.name _ _ (al.out.carry (aO _ _))).mono ?_;rintro e w1⟨rfl,rfl⟩;rw[HH.out])|(go_at_call 178;refine(vg C.sort _).mono ?_;rintro e w1⟨rfl,rfl⟩;rw[HS.out]));go_ret;refine⟨aY ?_,J.out.trans ((aO _ _).mono R)⟩;rw[<-I.out,l.out,jH (by omega) (by simp[eE,q2])];rfl
      ·have HH:=aa hh;clear hh;go_wp2_with(first|(go_at_call 259;refine(im C.name _ ah.out.1).mono ?_;rintro e w1⟨rfl,rfl⟩;rw[HW.out])|(go_at_call 131;refine(fD ls C.name _ _ (al.out.carry (aO _ _))).mono ?_;rintro e w1⟨rfl,rfl⟩;rw[HH.out]));go_ret;refine⟨aY ?_,J.out.trans ((aO _ _).mono R)⟩;rw[<-I.out,l.out,jH (by omega) (by simp[eE,HH.out])];rfl
    ·have b2:(C.op !=4)=true:=by rw[bne_iff_ne];exact q1
     go_wp2_with fail;go_ret;refine⟨aY ?_,J.out.trans ((aO _ _).mono R)⟩;rw[<-I.out,l.out,jH (by omega) (by simp[eE,q1])];rfl
   ·have b1:decide ((all.length:Int)<=(pos:Int))=true:=decide_eq_true (by omega);go_wp2_with fail;go_ret;refine⟨aY ?_,J.out⟩;rw[<-I.out,List.drop_of_length_le (by omega),rK (by omega)];rfl
  ·have hq:decide ((0:Int)<((m-k:Nat):Int))=false:=decide_eq_false (by omega);go_wp2_with fail;go_ret;refine⟨aY ?_,J.out⟩;rw[<-I.out,show m-k=0 from by omega];simp[bA,endPos];omega
