import Derived.Test.YtdiiiijkhpdcbaaGreatDoorRX18
import Derived.Test.YtdiiiijkhpdcbaaGreatDoorRX17
namespace Go.Proofs.YtdiiiijkhpdcbaaGreatDoor
open Go.RowKit
set_option linter.unusedSimpArgs false
set_option linter.unusedVariables false
set_option maxHeartbeats 4000000
set_option maxRecDepth 100000
section
attribute [local go_sem ↓] Go.wp_at_zero Go.wp_at_succ
theorem bF.parts{w:World}{B:Nat}{v:Value}{n:Nd}{l:List Nd}(h:bF w B v (n::l)):∃b o cap,v=.slice (some ⟨b,o,none⟩) (n::l).length cap/\(n::l).length<=cap/\(cap<=9223372036854775807/\l.length<4294967296)/\b<B/\cV w b o (n::l):=by obtain⟨R,cap,rfl,j,C,I⟩:=h;obtain⟨b,o,rfl,J,P⟩:=I (by simp);exact⟨b,o,cap,rfl,j,C,J,P⟩
theorem pg{w w':World}{base l mb:Nat}(h:gG w w' base [l]):gG w w' base [l,mb]:=⟨h.os,h.tape,h.output,h.size,fun b C j=>h.block b C (by simp at j;simp[j.1])⟩
theorem DQ{go:List Nd->Option (List Nd)}{m:Nat}{ls:List ByteArray}{l r:List Nd}(h:bA go (m+1) ls l=some r):∃c l' j,l=c::l'/\go l'=some j/\bA go m (ls++[c.name]) j=some r:=by
 cases l with
  |nil=>cases h|cons c l'=>
   rw[bA]at h;split at h;·
    split at h;·cases h
    ·rename_i j C;exact⟨c,l',j,rfl,C,h⟩
   ·cases h
structure Iy(w0 w:World)(B wb mb base nf0:Nat)(go:List Nd->Wv->Int×List Nd×Wv)(ka:List Nd->Option (List Nd))(s:Int)(l0 r:List Nd)(fin:List Nd×Wv)(m:Nat)(rv:Value)(lk:List Nd)(Wk:Wv)(sv ev:Value)(nf:Nat):Prop where
 sl:bF w B rv lk
 sh:zI lk
 ah:∃ls,bA ka m ls lk=some r
 we:ie w wb mb base sv ev nf Wk
 same:dy go s m lk Wk=fin
 fit:Fz lk Wk nf
 nf:nf+lk.length<=nf0+l0.length
 kept:gG w0 w base [wb,mb]
theorem ri(f:Nat)(many:Int)(hf:0<many->qX f)(st:List Nd)(I:Int)(name l:ByteArray)(C:Int)(P r:List Nd)(w:World)(B J mb base nf b o cap:Nat)(sv ev:Value)(W:Wv)(a1:I≠1)(a2:I≠2)(a9:0<=many/\many<=4)(bf:zI (⟨I,name,l,many,C⟩::P))(ha:bA (ahead (bC true) f st) many.toNat [] P=some r)(cx:b<B)(hB:B<=base/\B<=J/\B<=mb)(bL:(⟨I,name,l,many,C⟩::P:List Nd).length<=cap)(cy:cap<=9223372036854775807/\P.length<4294967296)(a3:cV w b o (⟨I,name,l,many,C⟩::P))(h:ie w J mb base sv ev nf W)(af:Fz (⟨I,name,l,many,C⟩::P) W nf):Calls Tryz.prog 252 #[.pointer (some ⟨J,0,none⟩),.slice (some ⟨b,o,none⟩) (⟨I,name,l,many,C⟩::P:List Nd).length cap] w fun e w'=>pQ w w' B J mb base nf e (⟨I,name,l,many,C⟩::P) r (W.sts.length:Int) (dy (wv f) (W.sts.length:Int) many.toNat P ⟨W.sts++[⟨eF I,l⟩],W.eds,W.fs⟩).2:=by
 obtain⟨M,hM⟩:∃M:Nat,many=(M:Int):=⟨many.toNat,by omega⟩;subst hM;rw[Int.toNat_natCast]at ha|-;have c6:M<=4:=by omega
 have H:=aa h;have R:=aa hB;have a4:=aa ha;have cl:=aa bf;have HF:=aa hf;have HT:Hid (∀ao,(cap≠1->ao=some ⟨b,o+5,none⟩)->bF w B (.slice ao P.length (cap-1)) P):=aa (fun ao ha=>bF.tail cx a3 bL cy ao ha);have bl:=aa af;have bR:=af.sts;simp only[List.length_cons]at bR;have bk:Hid (∀V,ie V J mb base sv ev nf W->Calls Tryz.prog 286 #[.pointer (some ⟨J,0,none⟩),.agg #[.int .i64 I,.string name,.string l,.int .i64 (M:Int),.int .i64 C]] V fun e w'=>∃cR,e=.returned (.int .i64 (W.sts.length:Int))/\ie w' J mb base cR ev nf ⟨W.sts++[⟨eF I,l⟩],W.eds,W.fs⟩/\gG V w' base [J]/\aH V w' (ae sv++[J])):=aa (fun V hV=>Be ⟨I,name,l,M,C⟩ V J mb base nf sv ev W (bf _ (List.mem_cons_self)) (by omega) hV);have bz:Hid (ie (w.alloc (.cells #[.int .i64 I,.string name,.string l,.int .i64 (M:Int),.int .i64 C] 156)).drew J mb base sv ev nf W):=aa (h.below (aO w _).drew);have bn:Hid (gG w (w.alloc (.cells #[.int .i64 I,.string name,.string l,.int .i64 (M:Int),.int .i64 C] 156)).drew base [J,mb]):=aa (kI (aO w _).drew h.sz);have bs:Hid (w.heap.size∉ae sv++[J]):=aa (by
  intro hm;rw[List.mem_append]at hm;rcases hm with hm|hm;·have:=h.st.fresh.hi _ hm;omega
  ·have:=h.box.lt;simp at hm;omega);have cT:Hid (J≠w.heap.size/\base<=w.heap.size):=aa (by have:=h.box.lt;have:=h.sz;omega);simp only[List.length_cons]at bL;obtain⟨⟨c0,c1,c2,c3,c4⟩,-⟩:=a3;dsimp only at c0 c1 c2 c3 c4;have c7:b<w.heap.size:=World.block_lt_of_cell? w _ c0;have hz:((P.length:Int)+1==0)=false:=beq_eq_false_iff_ne.2 (by omega);have e1:(I==1)=false:=by simpa[ZW]using a1
 have e2:(I==2)=false:=by simpa[ZW]using a2
 clear h hB hf ha bf af bR a1 a2 a9;by_cases bN:cap=1;·
  subst bN;obtain rfl:P=[]:=List.length_eq_zero_iff.1 (by omega);obtain rfl:M=0:=by cases M with|zero=>rfl|succ m=>have:=a4.out;cases this
  have bx:Hid (r=[]):=aa (by have:=a4.out;rw[bA]at this;injection this with this;exact this.symm);go_in;go_wp2;go_region;go_wp2_with(go_at_call 286;refine(bk.out _ bz.out).mono ?_;rintro e w2⟨bi,rfl,av,al,ad⟩;have a5:=aa av;have U:=aa (bn.out.trans (pg (mb:=mb) al));have n3:w2.cell? ⟨w.heap.size,3,none⟩=some (.int .i64 ((0:Nat):Int)):=ad.ek (by simp) bs.out;clear av al ad);go_loopw[7,52](fun rv i wr=>rv=.slice (some ⟨b,o,none⟩) 0 0/\i=.int .i64 0/\wr=w2)(fun _ _ _=>0);case atStart=>exact⟨rfl,rfl,rfl⟩
  case round=>obtain⟨rfl,rfl,rfl⟩:=hrel;go_wp2;go_ret2;refine⟨_,bi,ev,nf,rfl,?_,by rw[dy];exact a5.out,by rw[bx.out];simp,U.out⟩;rw[bx.out];exact U.out.sl R.out.1 (by intro x hx;simp at hx;rcases hx with rfl|rfl;exact R.out.2.1;exact R.out.2.2) (HT.out _ (fun h=>absurd rfl h))
 ·have cm:=aa (HT.out _ (fun _=>rfl));go_in;go_wp2;go_region;go_wp2_with(go_at_call 286;refine(bk.out _ bz.out).mono ?_;rintro e w2⟨bi,rfl,av,al,ad⟩;have a5:=aa av;have U:=aa (bn.out.trans (pg al));have n3:w2.cell? ⟨w.heap.size,3,none⟩=some (.int .i64 (M:Int)):=ad.ek (by simp) bs.out;clear av al ad);go_loopw[7,52](fun rv i wr=>∃(k:Nat)(lk:List Nd)(Wk:Wv)(aN az:Value)(aM:Nat),k<=M/\i=.int .i64 k/\Iy w wr B J mb base nf (wv f) (ahead (bC true) f st) (W.sts.length:Int) (⟨I,name,l,(M:Int),C⟩::P) r (dy (wv f) (W.sts.length:Int) M P ⟨W.sts++[⟨eF I,l⟩],W.eds,W.fs⟩) (M-k) rv lk Wk aN az aM)(fun _ i _=>M-(intOf i).toNat);case atStart=>
   refine⟨0,P,_,bi,ev,nf,Nat.zero_le _,rfl,⟨?_,fun n hn=>cl.out n (List.mem_cons_of_mem _ hn),⟨[],a4.out⟩,a5.out,rfl,?_,by simp only[List.length_cons];omega,U.out⟩⟩;·exact U.out.sl R.out.1 (by intro x hx;simp at hx;rcases hx with rfl|rfl;exact R.out.2.1;exact R.out.2.2) cm.out
   ·have:=bl.out;exact⟨by have:=this.sts;simp only[List.length_cons,List.length_append,List.length_nil]at*;omega,by have:=this.eds;simp only[List.length_cons]at*;omega,by have:=this.Ke;simp only[List.length_cons]at*;omega⟩
  case round=>
   obtain⟨k,lk,Wk,aN,az,aM,hk,rfl,b7⟩:=hrel;have j:=aa b7;clear b7;by_cases cI:k<M;·
    obtain⟨m',cL⟩:∃m',M-k=m'+1:=⟨M-k-1,by omega⟩;have cg:Hid (M-(k+1)=m'):=aa (by omega);rw[cL]at j;obtain⟨ls,T⟩:=j.out.ah;obtain⟨c,l',r1,rfl,an,b1⟩:=DQ T;have bp:=aa an;have br:=aa b1;obtain⟨b2,o2,aR,rfl,b4,bM,cv,b5⟩:=j.out.sl.parts;have a0:l'≠[]:=by rintro rfl;cases f<;>cases an
    have cM:0<l'.length:=List.length_pos_iff.2 a0;simp only[List.length_cons]at b4;have cz:aR≠1:=by omega
    have cn:Hid (bF wr B (.slice (some ⟨b2,o2+5,none⟩) l'.length (aR-1)) l'):=aa (bF.tail cv b5 (by simp only[List.length_cons];exact b4) bM _ (fun _=>rfl));obtain⟨q1,q2⟩:=uX f st l' r1 Wk an;have c5:=aa q1;have ax:=aa q2;have bv:=aa (Calls.mono (HF.out (by omega) st l' r1 _ wr B J mb base aM aN az Wk an (fun n hn=>j.out.sh n (List.mem_cons_of_mem _ hn)) cn.out R.out.1 R.out.2.1 R.out.2.2 j.out.we ⟨by have:=j.out.fit.sts;simp only[List.length_cons]at this;omega,by have:=j.out.fit.eds;simp only[List.length_cons]at this;omega,by have:=j.out.fit.Ke;simp only[List.length_cons]at this;omega⟩) (fun e w' hh=>hh));obtain⟨i3,a8⟩:∃i,(wv f l' Wk).1=i:=⟨_,rfl⟩;obtain⟨W3,aL⟩:∃X,(wv f l' Wk).2.2=X:=⟨_,rfl⟩;rw[a8,aL]at bv;rw[aL]at ax;have ay:Hid (dy (wv f) (W.sts.length:Int) (m'+1) (c::l') Wk=dy (wv f) (W.sts.length:Int) m' r1 ⟨W3.sts,W3.eds++[⟨(W.sts.length:Int),c.name,c.sort,i3⟩],W3.fs⟩):=aa (by rw[dy,q1,a8,aL]);have c8:((l'.length:Int)+1==0)=false:=beq_eq_false_iff_ne.2 (by omega);obtain⟨cr,ab,a7,a6,ac⟩:=c;clear T an b1 b5 q1 q2 a8 aL a0;go_wp2_with(first|(go_at_call 252;refine bv.out.mono ?_;rintro e w3⟨v3,cf,cs,cd,rfl,h2,h3,h4,h5⟩;have H2:=aa h2;have H3:=aa h3;have H4:=aa h4;have H5:=aa h5;obtain⟨cq,bB,rfl,-⟩:=h2;have ch:=aa (h5.sl R.out.1 (by intro x hx;simp at hx;rcases hx with rfl|rfl;exact R.out.2.1;exact R.out.2.2) j.out.sl);obtain⟨b3,o3,cS,aq,-,-,-,bb⟩:=ch.out.parts;injection aq with aq _ _;injection aq with aq;injection aq with ca cb;subst ca;subst cb;obtain⟨⟨d0,d1,d2,d3,d4⟩,-⟩:=bb;dsimp only at d0 d1 d2 d3 d4;clear h3 h4 h5)|(go_at_call 287;refine(CU ⟨cr,ab,a7,a6,ac⟩ (W.sts.length:Int) i3 w3 J mb base cd cf cs W3 (j.out.sh _ (List.mem_cons_self)) (by have:=ax.out.eds;have:=j.out.fit.eds;simp only[List.length_cons]at this;omega) H3.out).mono ?_;rintro e w4⟨cu,rfl,cc,b0,-⟩;have cp:=aa cc;have bm:=aa (pg (mb:=mb) b0);clear cc b0));go_roundw;case rel=>
     refine⟨k+1,r1,⟨W3.sts,W3.eds++[⟨(W.sts.length:Int),ab,ac,i3⟩],W3.fs⟩,cf,cu,cd,cI,by go_num,?_⟩;rw[cg.out];refine⟨bm.out.sl R.out.1 (by intro x hx;simp at hx;rcases hx with rfl|rfl;exact R.out.2.1;exact R.out.2.2) H2.out,fun n hn=>j.out.sh n (List.mem_cons_of_mem _ ((fa _ _ _ _ _ bp.out).subset hn)),⟨_,br.out⟩,cp.out,ay.out.symm.trans j.out.same,⟨?_,?_,?_⟩,?_,(j.out.kept.trans H5.out).trans bm.out⟩;·have:=ax.out.sts;have:=j.out.fit.sts;simp only[List.length_cons]at this;dsimp only;omega
     ·have:=ax.out.eds;have:=j.out.fit.eds;simp only[List.length_cons]at this;simp only[List.length_append,List.length_cons,List.length_nil];omega
     ·have:=H4.out;have:=j.out.fit.Ke;simp only[List.length_cons]at this;omega
     ·have:=H4.out;have:=j.out.nf;simp only[List.length_cons]at*;omega
    case measure=>simp[intOf];omega
   ·obtain rfl:k=M:=by omega
    have cN:k-k=0:=Nat.sub_self k;rw[cN]at j;obtain⟨ls,T⟩:=j.out.ah;rw[bA]at T;injection T with T;subst T;have ay:=aa j.out.same;rw[dy]at ay;obtain⟨cq,bB,rfl,-⟩:=j.out.sl;go_wp2;go_ret2;refine⟨_,aN,az,aM,rfl,j.out.sl,?_,j.out.nf,j.out.kept⟩;rw[<-ay.out];exact j.out.we
theorem xh{n:Nd}(h:iu n=true):n.many=0:=by simp only[iu,Bool.and_eq_true,beq_iff_eq]at h;exact h.1.2
theorem BT{n:Nd}(h:bC true n=true):1<=n.many/\n.many<=4:=by simp only[bC,jQ,Bool.and_eq_true,decide_eq_true_eq]at h;omega
theorem Bd:∀f:Nat,qX f:=by
 intro f;induction f with
  |zero=>
   intro st l r v w B wb mb base nf sv ev W ha U ac I J P ab C;cases l with
    |nil=>cases ha|cons n l1=>
     obtain⟨b,o,cap,rfl,R,T,hb,hr⟩:=ac.parts;obtain⟨op,name,j,many,sort⟩:=n;by_cases h1:op=1;·
      subst h1;rw[dv rfl]at ha;split at ha;·injection ha with ha;subst ha;exact zN name j many sort l1 w B wb mb base nf b o cap sv ev W (U _ (List.mem_cons_self)).1 hb ⟨I,J,P⟩ R T hr ab
      ·cases ha
     ·by_cases h0:op=0;·
       rw[da h0]at ha;split at ha;·
        rename_i he;injection ha with ha;subst ha;have hm:many=0:=xh he;subst hm;have:=ri 0 0 (fun h=>absurd h (by omega)) st op name j sort l1 l1 w B wb mb base nf b o cap sv ev W h1 (by omega) ⟨by omega,by omega⟩ U rfl hb ⟨I,J,P⟩ R T hr ab C;have e1:(op==1)=false:=by simpa[ZW]using h1
        rw[wv];simp only[e1];exact this
       ·cases ha
      ·rw[fm h0 h1]at ha;cases ha
  |succ f ih=>
   intro st l r v w B wb mb base nf sv ev W ha U ac I J P ab C;cases l with
    |nil=>cases ha|cons n l1=>
     obtain⟨b,o,cap,rfl,R,T,hb,hr⟩:=ac.parts;obtain⟨op,name,j,many,sort⟩:=n;by_cases h1:op=1;·
      subst h1;rw[dv rfl]at ha;split at ha;·injection ha with ha;subst ha;exact zN name j many sort l1 w B wb mb base nf b o cap sv ev W (U _ (List.mem_cons_self)).1 hb ⟨I,J,P⟩ R T hr ab
      ·cases ha
     ·have e1:(op==1)=false:=by simpa[ZW]using h1
      by_cases h2:op=2;·
       subst h2;rw[dC rfl]at ha;split at ha;·exact FH f ih st name j many sort l1 r w B wb mb base nf b o cap sv ev W U ha hb ⟨I,J,P⟩ R T hr ab C
       ·cases ha
      ·have e2:(op==2)=false:=by simpa[ZW]using h2
       by_cases h0:op=0;·
        rw[da h0]at ha;split at ha;·rename_i he;injection ha with ha;subst ha;have hm:many=0:=xh he;subst hm;have:=ri f 0 (fun h=>absurd h (by omega)) st op name j sort l1 l1 w B wb mb base nf b o cap sv ev W h1 h2 ⟨by omega,by omega⟩ U rfl hb ⟨I,J,P⟩ R T hr ab C;rw[wv];simp only[e1,e2];exact this
        ·cases ha
       ·rw[fA h0 h1 h2]at ha;split at ha;·rename_i ht;have hm:=BT ht;dsimp only at hm ha;have:=ri f many (fun _=>ih) _ op name j sort l1 r w B wb mb base nf b o cap sv ev W h1 h2 ⟨by omega,by omega⟩ U ha hb ⟨I,J,P⟩ R T hr ab C;rw[wv];simp only[e1,e2];exact this
        ·cases ha
end
