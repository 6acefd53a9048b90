import Derived.Test.YtdiiiijkhpdcbaaGreatDoorRV31
import Derived.Test.YtdiiiijkhpdcbaaGreatDoorRV29
import Derived.Test.YtdiiiijkhpdcbaaGreatDoorRV26
import Derived.Test.YtdiiiijkhpdcbaaGreatDoorRV32
namespace Go.Proofs.YtdiiiijkhpdcbaaGreatDoor
open Go.RowKit
set_option linter.unusedSimpArgs false
set_option linter.unusedVariables false
set_option maxHeartbeats 4000000
set_option maxRecDepth 100000
section
attribute [local go_sem ↓] Go.wp_at_zero Go.wp_at_succ
theorem bG.parts{w:World}{B:Nat}{v:Value}{n:Nd}{l:List Nd}(h:bG w B v (n::l)):∃b o cap,v=.slice (some ⟨b,o,none⟩) (n::l).length cap/\(n::l).length<=cap/\(cap<=9223372036854775807/\l.length<4294967296)/\b<B/\cV w b o (n::l):=by obtain⟨R,cap,rfl,j,C,I⟩:=h;obtain⟨b,o,rfl,J,P⟩:=I (by simp);exact⟨b,o,cap,rfl,j,C,J,P⟩
theorem oU{w w':World}{base l mb:Nat}(h:gA w w' base [l]):gA w w' base [l,mb]:=⟨h.os,h.tape,h.output,h.size,fun b C j=>h.block b C (by simp at j;simp[j.1])⟩
theorem Dt{go:List Nd->Option (List Nd)}{m:Nat}{ls:List ByteArray}{l r:List Nd}(h:bA go (m+1) ls l=some r):∃c l' j,l=c::l'/\go l'=some j/\bA go m (ls++[c.name]) j=some r:=by
 cases l with
  |nil=>cases h|cons c l'=>
   rw[bA]at h;split at h;·
    split at h;·cases h
    ·rename_i j C;exact⟨c,l',j,rfl,C,h⟩
   ·cases h
structure Hq(w0 w:World)(B wb mb base nf0:Nat)(go:List Nd->Wv->Int×List Nd×Wv)(ka:List Nd->Option (List Nd))(s:Int)(l0 r:List Nd)(fin:List Nd×Wv)(m:Nat)(rv:Value)(lk:List Nd)(Wk:Wv)(sv ev:Value)(nf:Nat):Prop where
 sl:bG w B rv lk
 sh:zn lk
 ah:∃ls,bA ka m ls lk=some r
 we:gX w wb mb base sv ev nf Wk
 same:dv go s m lk Wk=fin
 fit:E6 lk Wk nf
 nf:nf+lk.length<=nf0+l0.length
 kept:gA w0 w base [wb,mb]
theorem qV(f:Nat)(many:Int)(hf:0<many->qO f)(st:List Nd)(I:Int)(name l:ByteArray)(C:Int)(P r:List Nd)(w:World)(B J mb base nf b o cap:Nat)(sv ev:Value)(W:Wv)(a1:I≠1)(a2:I≠2)(a9:0<=many/\many<=4)(bf:zn (⟨I,name,l,many,C⟩::P))(ha:bA (ahead (bC true) f st) many.toNat [] P=some r)(cx:b<B)(hB:B<=base/\B<=J/\B<=mb)(bL:(⟨I,name,l,many,C⟩::P:List Nd).length<=cap)(cy:cap<=9223372036854775807/\P.length<4294967296)(a3:cV w b o (⟨I,name,l,many,C⟩::P))(h:gX w J mb base sv ev nf W)(af:E6 (⟨I,name,l,many,C⟩::P) W nf):Calls Tryz.prog 252 #[.pointer (some ⟨J,0,none⟩),.slice (some ⟨b,o,none⟩) (⟨I,name,l,many,C⟩::P:List Nd).length cap] w fun e w'=>pI w w' B J mb base nf e (⟨I,name,l,many,C⟩::P) r (W.sts.length:Int) (dv (wv f) (W.sts.length:Int) many.toNat P ⟨W.sts++[⟨eF I,l⟩],W.eds,W.fs⟩).2:=by
 obtain⟨M,hM⟩:∃M:Nat,many=(M:Int):=⟨many.toNat,by omega⟩;subst hM;rw[Int.toNat_natCast]at ha|-;have c6:M<=4:=by omega
 have H:=aa h;have R:=aa hB;have a4:=aa ha;have cl:=aa bf;have HF:=aa hf;have HT:Hid (∀ao,(cap≠1->ao=some ⟨b,o+5,none⟩)->bG w B (.slice ao P.length (cap-1)) P):=aa (fun ao ha=>bG.tail cx a3 bL cy ao ha);have bl:=aa af;have bR:=af.sts;simp only[List.length_cons]at bR;have bk:Hid (∀V,gX V J mb base sv ev nf W->Calls Tryz.prog 286 #[.pointer (some ⟨J,0,none⟩),.agg #[.int .i64 I,.string name,.string l,.int .i64 (M:Int),.int .i64 C]] V fun e w'=>∃cR,e=.returned (.int .i64 (W.sts.length:Int))/\gX w' J mb base cR ev nf ⟨W.sts++[⟨eF I,l⟩],W.eds,W.fs⟩/\gA V w' base [J]/\aG V w' (ag sv++[J])):=aa (fun V hV=>AL ⟨I,name,l,M,C⟩ V J mb base nf sv ev W (bf _ (List.mem_cons_self)) (by omega) hV);have bz:Hid (gX (w.alloc (.cells #[.int .i64 I,.string name,.string l,.int .i64 (M:Int),.int .i64 C] 156)).drew J mb base sv ev nf W):=aa (h.below (aO w _).drew);have bn:Hid (gA w (w.alloc (.cells #[.int .i64 I,.string name,.string l,.int .i64 (M:Int),.int .i64 C] 156)).drew base [J,mb]):=aa (kE (aO w _).drew h.sz);have bs:Hid (w.heap.size∉ag sv++[J]):=aa (by
  intro hm;rw[List.mem_append]at hm;rcases hm with hm|hm;·have:=h.st.fresh.hi _ hm;omega
  ·have:=h.box.lt;simp at hm;omega);have cT:Hid (J≠w.heap.size/\base<=w.heap.size):=aa (by have:=h.box.lt;have:=h.sz;omega);simp only[List.length_cons]at bL;obtain⟨⟨c0,c1,c2,c3,c4⟩,-⟩:=a3;dsimp only at c0 c1 c2 c3 c4;have c7:b<w.heap.size:=World.block_lt_of_cell? w _ c0;have hz:((P.length:Int)+1==0)=false:=beq_eq_false_iff_ne.2 (by omega);have e1:(I==1)=false:=by simpa using a1
 have e2:(I==2)=false:=by simpa using a2
 clear h hB hf ha bf af bR a1 a2 a9;by_cases bN:cap=1;·
  subst bN;obtain rfl:P=[]:=List.length_eq_zero_iff.1 (by omega);obtain rfl:M=0:=by cases M with|zero=>rfl|succ m=>have:=a4.out;cases this
  have bx:Hid (r=[]):=aa (by have:=a4.out;rw[bA]at this;injection this with this;exact this.symm);go_enter Tryz.func252,Tryz.ntmps252;go_wp2_with fail;go_region;go_wp2_with(go_at_call 286;refine(bk.out _ bz.out).mono ?_;rintro e w2⟨bi,rfl,av,al,ad⟩;have a5:=aa av;have U:=aa (bn.out.trans (oU (mb:=mb) al));have n3:w2.cell? ⟨w.heap.size,3,none⟩=some (.int .i64 ((0:Nat):Int)):=ad.eS (by simp) bs.out;clear av al ad);go_loopw[7,52](fun rv i wr=>rv=.slice (some ⟨b,o,none⟩) 0 0/\i=.int .i64 0/\wr=w2)(fun _ _ _=>0);case atStart=>exact⟨rfl,rfl,rfl⟩
  case round=>obtain⟨rfl,rfl,rfl⟩:=hrel;go_wp2_with fail;go_ret2;refine⟨_,bi,ev,nf,rfl,?_,by rw[dv];exact a5.out,by rw[bx.out];simp,U.out⟩;rw[bx.out];exact U.out.sl R.out.1 (by intro x hx;simp at hx;rcases hx with rfl|rfl;exact R.out.2.1;exact R.out.2.2) (HT.out _ (fun h=>absurd rfl h))
 ·have cm:=aa (HT.out _ (fun _=>rfl));go_enter Tryz.func252,Tryz.ntmps252;go_wp2_with fail;go_region;go_wp2_with(go_at_call 286;refine(bk.out _ bz.out).mono ?_;rintro e w2⟨bi,rfl,av,al,ad⟩;have a5:=aa av;have U:=aa (bn.out.trans (oU al));have n3:w2.cell? ⟨w.heap.size,3,none⟩=some (.int .i64 (M:Int)):=ad.eS (by simp) bs.out;clear av al ad);go_loopw[7,52](fun rv i wr=>∃(k:Nat)(lk:List Nd)(Wk:Wv)(aN az:Value)(aM:Nat),k<=M/\i=.int .i64 k/\Hq w wr B J mb base nf (wv f) (ahead (bC true) f st) (W.sts.length:Int) (⟨I,name,l,(M:Int),C⟩::P) r (dv (wv f) (W.sts.length:Int) M P ⟨W.sts++[⟨eF I,l⟩],W.eds,W.fs⟩) (M-k) rv lk Wk aN az aM)(fun _ i _=>M-(intOf i).toNat);case atStart=>
   refine⟨0,P,_,bi,ev,nf,Nat.zero_le _,rfl,⟨?_,fun n hn=>cl.out n (List.mem_cons_of_mem _ hn),⟨[],a4.out⟩,a5.out,rfl,?_,by simp only[List.length_cons];omega,U.out⟩⟩;·exact U.out.sl R.out.1 (by intro x hx;simp at hx;rcases hx with rfl|rfl;exact R.out.2.1;exact R.out.2.2) cm.out
   ·have:=bl.out;exact⟨by have:=this.sts;simp only[List.length_cons,List.length_append,List.length_nil]at*;omega,by have:=this.eds;simp only[List.length_cons]at*;omega,by have:=this.JE;simp only[List.length_cons]at*;omega⟩
  case round=>
   obtain⟨k,lk,Wk,aN,az,aM,hk,rfl,b7⟩:=hrel;have j:=aa b7;clear b7;by_cases cI:k<M;·
    obtain⟨m',cL⟩:∃m',M-k=m'+1:=⟨M-k-1,by omega⟩;have cg:Hid (M-(k+1)=m'):=aa (by omega);rw[cL]at j;obtain⟨ls,T⟩:=j.out.ah;obtain⟨c,l',r1,rfl,an,b1⟩:=Dt T;have bp:=aa an;have br:=aa b1;obtain⟨b2,o2,aR,rfl,b4,bM,cv,b5⟩:=j.out.sl.parts;have a0:l'≠[]:=by rintro rfl;cases f<;>cases an
    have cM:0<l'.length:=List.length_pos_iff.2 a0;simp only[List.length_cons]at b4;have cz:aR≠1:=by omega
    have cn:Hid (bG wr B (.slice (some ⟨b2,o2+5,none⟩) l'.length (aR-1)) l'):=aa (bG.tail cv b5 (by simp only[List.length_cons];exact b4) bM _ (fun _=>rfl));obtain⟨q1,q2⟩:=uK f st l' r1 Wk an;have c5:=aa q1;have ax:=aa q2;have bv:=aa (Calls.mono (HF.out (by omega) st l' r1 _ wr B J mb base aM aN az Wk an (fun n hn=>j.out.sh n (List.mem_cons_of_mem _ hn)) cn.out R.out.1 R.out.2.1 R.out.2.2 j.out.we ⟨by have:=j.out.fit.sts;simp only[List.length_cons]at this;omega,by have:=j.out.fit.eds;simp only[List.length_cons]at this;omega,by have:=j.out.fit.JE;simp only[List.length_cons]at this;omega⟩) (fun e w' hh=>hh));obtain⟨i3,a8⟩:∃i,(wv f l' Wk).1=i:=⟨_,rfl⟩;obtain⟨W3,aL⟩:∃X,(wv f l' Wk).2.2=X:=⟨_,rfl⟩;rw[a8,aL]at bv;rw[aL]at ax;have ay:Hid (dv (wv f) (W.sts.length:Int) (m'+1) (c::l') Wk=dv (wv f) (W.sts.length:Int) m' r1 ⟨W3.sts,W3.eds++[⟨(W.sts.length:Int),c.name,c.sort,i3⟩],W3.fs⟩):=aa (by rw[dv,q1,a8,aL]);have c8:((l'.length:Int)+1==0)=false:=beq_eq_false_iff_ne.2 (by omega);obtain⟨cr,ab,a7,a6,ac⟩:=c;clear T an b1 b5 q1 q2 a8 aL a0;go_wp2_with(first|(go_at_call 252;refine bv.out.mono ?_;rintro e w3⟨v3,cf,cs,cd,rfl,h2,h3,h4,h5⟩;have H2:=aa h2;have H3:=aa h3;have H4:=aa h4;have H5:=aa h5;obtain⟨cq,bB,rfl,-⟩:=h2;have ch:=aa (h5.sl R.out.1 (by intro x hx;simp at hx;rcases hx with rfl|rfl;exact R.out.2.1;exact R.out.2.2) j.out.sl);obtain⟨b3,o3,cS,aq,-,-,-,bb⟩:=ch.out.parts;injection aq with aq _ _;injection aq with aq;injection aq with ca cb;subst ca;subst cb;obtain⟨⟨d0,d1,d2,d3,d4⟩,-⟩:=bb;dsimp only at d0 d1 d2 d3 d4;clear h3 h4 h5)|(go_at_call 287;refine(Cx ⟨cr,ab,a7,a6,ac⟩ (W.sts.length:Int) i3 w3 J mb base cd cf cs W3 (j.out.sh _ (List.mem_cons_self)) (by have:=ax.out.eds;have:=j.out.fit.eds;simp only[List.length_cons]at this;omega) H3.out).mono ?_;rintro e w4⟨cu,rfl,cc,b0,-⟩;have cp:=aa cc;have bm:=aa (oU (mb:=mb) b0);clear cc b0));go_roundw;case rel=>
     refine⟨k+1,r1,⟨W3.sts,W3.eds++[⟨(W.sts.length:Int),ab,ac,i3⟩],W3.fs⟩,cf,cu,cd,cI,by go_num,?_⟩;rw[cg.out];refine⟨bm.out.sl R.out.1 (by intro x hx;simp at hx;rcases hx with rfl|rfl;exact R.out.2.1;exact R.out.2.2) H2.out,fun n hn=>j.out.sh n (List.mem_cons_of_mem _ ((fg _ _ _ _ _ bp.out).subset hn)),⟨_,br.out⟩,cp.out,ay.out.symm.trans j.out.same,⟨?_,?_,?_⟩,?_,(j.out.kept.trans H5.out).trans bm.out⟩;·have:=ax.out.sts;have:=j.out.fit.sts;simp only[List.length_cons]at this;dsimp only;omega
     ·have:=ax.out.eds;have:=j.out.fit.eds;simp only[List.length_cons]at this;simp only[List.length_append,List.length_cons,List.length_nil];omega
     ·have:=H4.out;have:=j.out.fit.JE;simp only[List.length_cons]at this;omega
     ·have:=H4.out;have:=j.out.nf;simp only[List.length_cons]at*;omega
    case measure=>simp[intOf];omega
   ·obtain rfl:k=M:=by omega
    have cN:k-k=0:=Nat.sub_self k;rw[cN]at j;obtain⟨ls,T⟩:=j.out.ah;rw[bA]at T;injection T with T;subst T;have ay:=aa j.out.same;rw[dv]at ay;obtain⟨cq,bB,rfl,-⟩:=j.out.sl;go_wp2_with fail;go_ret2;refine⟨_,aN,az,aM,rfl,j.out.sl,?_,j.out.nf,j.out.kept⟩;rw[<-ay.out];exact j.out.we
theorem wT{n:Nd}(h:ic n=true):n.many=0:=by simp only[ic,Bool.and_eq_true,beq_iff_eq]at h;exact h.1.2
theorem Bt{n:Nd}(h:bC true n=true):1<=n.many/\n.many<=4:=by simp only[bC,jJ,Bool.and_eq_true,decide_eq_true_eq]at h;omega
theorem AK:∀f:Nat,qO f:=by
 intro f;induction f with
  |zero=>
   intro st l r v w B wb mb base nf sv ev W ha U ac I J P ab C;cases l with
    |nil=>cases ha|cons n l1=>
     obtain⟨b,o,cap,rfl,R,T,hb,hr⟩:=ac.parts;obtain⟨op,name,j,many,sort⟩:=n;by_cases h1:op=1;·
      subst h1;rw[dr rfl]at ha;split at ha;·injection ha with ha;subst ha;exact zu name j many sort l1 w B wb mb base nf b o cap sv ev W (U _ (List.mem_cons_self)).1 hb ⟨I,J,P⟩ R T hr ab
      ·cases ha
     ·by_cases h0:op=0;·
       rw[db h0]at ha;split at ha;·
        rename_i he;injection ha with ha;subst ha;have hm:many=0:=wT he;subst hm;have:=qV 0 0 (fun h=>absurd h (by omega)) st op name j sort l1 l1 w B wb mb base nf b o cap sv ev W h1 (by omega) ⟨by omega,by omega⟩ U rfl hb ⟨I,J,P⟩ R T hr ab C;have e1:(op==1)=false:=by simpa using h1
        rw[wv];simp only[e1];exact this
       ·cases ha
      ·rw[fm h0 h1]at ha;cases ha
  |succ f ih=>
   intro st l r v w B wb mb base nf sv ev W ha U ac I J P ab C;cases l with
    |nil=>cases ha|cons n l1=>
     obtain⟨b,o,cap,rfl,R,T,hb,hr⟩:=ac.parts;obtain⟨op,name,j,many,sort⟩:=n;by_cases h1:op=1;·
      subst h1;rw[dr rfl]at ha;split at ha;·injection ha with ha;subst ha;exact zu name j many sort l1 w B wb mb base nf b o cap sv ev W (U _ (List.mem_cons_self)).1 hb ⟨I,J,P⟩ R T hr ab
      ·cases ha
     ·have e1:(op==1)=false:=by simpa using h1
      by_cases h2:op=2;·
       subst h2;rw[dA rfl]at ha;split at ha;·exact Fe f ih st name j many sort l1 r w B wb mb base nf b o cap sv ev W U ha hb ⟨I,J,P⟩ R T hr ab C
       ·cases ha
      ·have e2:(op==2)=false:=by simpa using h2
       by_cases h0:op=0;·
        rw[db h0]at ha;split at ha;·rename_i he;injection ha with ha;subst ha;have hm:many=0:=wT he;subst hm;have:=qV f 0 (fun h=>absurd h (by omega)) st op name j sort l1 l1 w B wb mb base nf b o cap sv ev W h1 h2 ⟨by omega,by omega⟩ U rfl hb ⟨I,J,P⟩ R T hr ab C;rw[wv];simp only[e1,e2];exact this
        ·cases ha
       ·rw[fA h0 h1 h2]at ha;split at ha;·rename_i ht;have hm:=Bt ht;dsimp only at hm ha;have:=qV f many (fun _=>ih) _ op name j sort l1 r w B wb mb base nf b o cap sv ev W h1 h2 ⟨by omega,by omega⟩ U ha hb ⟨I,J,P⟩ R T hr ab C;rw[wv];simp only[e1,e2];exact this
        ·cases ha
def G8(ns:List Nd):cB:=if 400<ns.length then o6 else if cK true ns then jI ns else o6
def G7(ns:List Nd):Int:=if 400<ns.length then 2 else if cK true ns then 0 else 1
theorem jo{ns:List Nd}(h:cK true ns=true):ahead (bC true) 10 [] ns=some []/\ns.length<=40:=by rw[cK]at h;simp only[Bool.and_eq_true,decide_eq_true_eq,beq_iff_eq]at h;refine⟨?_,h.1⟩;cases j:ahead (bC true) 10 [] ns with|none=>rw[j]at h;simp at h|some r=>rw[j]at h;simp at h;rw[h.2.1]
theorem zv{w w':World}(C:Int)(j:Below w.heap.size w w'):zk w w' (.returned (.agg #[.slice none 0 0,.slice none 0 0,.int .i64 0,.int .i64 C])) o6 C:=⟨⟨_,_,rfl,cF.nil _ _,bD.nil _ _,by simp[ag,aJ]⟩,j⟩
theorem gA.below{w w':World}{base B:Nat}{l:List Nat}(h:gA w w' base l)(I:B<=base)(j:∀b∈l,B<=b):Below B w w':=⟨h.os,h.tape,h.output,h.size,fun k J=>h.block k (by omega) (fun C=>absurd (j k C) (by omega))⟩
theorem gA.box{w w':World}{base b:Nat}{l:List Nat}{J:List Value}(h:gA w w' base l)(C:b<base)(I:b∉l)(j:aW w b J):aW w' b J:=⟨fun i v P=>(World.cell?_of_block (a:=⟨b,i,none⟩) (h.block b C I)).trans (j.cell i v P),fun o=>(World.frozen?_of_block (a:=⟨b,o,none⟩) (h.block b C I)).trans (j.fz o),Nat.lt_of_lt_of_le j.lt h.size⟩
theorem IU(w:World):gX ((w.alloc (.map #[] 0)).alloc (.cells #[.slice none 0 0,.slice none 0 0,.int .i64 0,.map (some w.heap.size)] 309)) (w.heap.size+1) w.heap.size (w.heap.size+2) (.slice none 0 0) (.slice none 0 0) 0 ⟨[],[],fun _=>0⟩:=by
 refine⟨?_,cF.nil _ _,bD.nil _ _,?_,by simp[ag,aJ],⟨by omega,by omega,by omega⟩,by simp⟩;·have:=aW.new (w.alloc (.map #[] 0)) [.slice none 0 0,.slice none 0 0,.int .i64 0,.map (some w.heap.size)] 309;simpa using this
 ·exact(Ie w).aB (aj (ae _ _)) (by simp)
theorem Ds{j w3:World}{C I:Obj}(h:gA ((j.alloc C).alloc I) w3 (j.heap.size+2) [j.heap.size+1,j.heap.size]):gA j w3 j.heap.size []:=have J:Below j.heap.size j ((j.alloc C).alloc I):=(ae _ _).trans ((ae _ _).mono (by simp));⟨h.os,h.tape,h.output,by have:=h.size;simp at this;omega,fun b l _=>(h.block b (by omega) (by simp;omega)).trans (J.block b l)⟩
theorem Ir{w l w3 R:World}{ps pe:Option Addr}{cs ce nf:Nat}{Z:Wv}{es:List aA}{i:Int}(I:Below w.heap.size w l)(ac:w.heap.size<l.heap.size)(T:gX w3 (l.heap.size+1) l.heap.size (l.heap.size+2) (.slice ps Z.sts.length cs) (.slice pe Z.eds.length ce) nf Z)(J:gA l w3 l.heap.size [])(ab:aG (w3.setCell ⟨l.heap.size+1,2,none⟩ (.int .i64 i)) R (ag (.slice pe Z.eds.length ce)))(P:bD R (l.heap.size+2) (.slice pe Z.eds.length ce) es)(y0 y1 y2 y3:Value):zk w ((((R.setCell ⟨w.heap.size,0,none⟩ y0).setCell ⟨w.heap.size,1,none⟩ y1).setCell ⟨w.heap.size,2,none⟩ y2).setCell ⟨w.heap.size,3,none⟩ y3) (.returned (.agg #[.slice ps Z.sts.length cs,.slice pe Z.eds.length ce,.int .i64 i,.int .i64 0])) ⟨Z.sts,es,i⟩ 0:=by
 have hS:=aI w3 (l.heap.size+1) 2 (.int .i64 i);have hA:=hS.trans ab;have lo:=T.ed.fresh.lo;have h4:=J3 R w.heap.size y0 y1 y2 y3;have U:Below w.heap.size w R:=by
  refine(I.trans (J.below I.size (by simp))).trans (hA.below (Nat.le_trans I.size J.size) (fun b j=>?_));rw[List.mem_append]at j;rcases j with j|j;·simp at j;omega
  ·have:=lo b j;omega
 refine⟨⟨_,_,rfl,?_,?_,T.G1⟩,Jy U y0 y1 y2 y3⟩;·
  have hs:=T.st;refine bH (base:=l.heap.size+2) ((hs.aB hA (fun b j C=>?_)).aB h4 (fun b j C=>by have:=hs.fresh.lo b j;simp at C;omega)) (by omega);rw[List.mem_append]at C;rcases C with C|C;·have:=hs.fresh.lo b j;simp at C;omega
  ·exact T.G1 b j C
 ·exact bH (P.aB h4 (fun b j C=>by have:=P.fresh.lo b j;simp at C;omega)) (by omega)
theorem wC(ns:List Nd)(v:Value)(w:World)(ax:∀n∈ns,n.fit)(hv:bG w w.heap.size v ns):Calls Tryz.prog 214 #[v] w fun e w'=>zk w w' e (G8 ns) (G7 ns):=by
 have HV:=aa hv;have an:=aa ax;have a1:=hv.ix;obtain⟨ao,cap,rfl,hc,hm,hr⟩:=hv;have HO:Hid (aW (w.alloc JV) w.heap.size [.slice none 0 0,.slice none 0 0,.int .i64 0,.int .i64 0]):=aa (aW.new w [.slice none 0 0,.slice none 0 0,.int .i64 0,.int .i64 0] 253);clear hr ax;by_cases h4:400<ns.length;·have HT:Hid (G8 ns=o6/\G7 ns=2):=aa ⟨if_pos h4,if_pos h4⟩;go_enter Tryz.func214,Tryz.ntmps214;go_wp2_with fail;refine bodyPost_ret (v:=.agg #[.slice none 0 0,.slice none 0 0,.int .i64 0,.int .i64 2]) (by simp[results,Tryz.results214,go_sem]) rfl ?_;rw[HT.out.1,HT.out.2];exact zv 2 ((Below.refl _ _).alloc (Nat.le_refl _) _)
 ·obtain⟨q,hq⟩:∃q,cK true ns=q:=⟨_,rfl⟩;have HQ:=aa hq;have av:Hid (∀W,Below w.heap.size w W->Calls Tryz.prog 251 #[.slice ao ns.length cap] W fun e w'=>e=.returned (.bool q)/\Below W.heap.size W w'):=aa (fun W U=>by have:=yC ns (.slice ao ns.length cap) W an.out ((HV.out.carry U).up U.size);rw[hq]at this;exact this);have HT:Hid (G8 ns=(if q then jI ns else o6)/\G7 ns=(if q then 0 else 1)):=aa (by unfold G8 G7;rw[if_neg h4,if_neg h4,hq];exact⟨rfl,rfl⟩);clear hq;cases q;·go_enter Tryz.func214,Tryz.ntmps214;go_wp2_with(go_at_call 251;refine(av.out _ (ae w _)).mono ?_;rintro e T⟨rfl,j⟩;have ab:Hid (Below w.heap.size w T):=aa ((ae w _).trans (j.mono (by simp)));have C:=aa (HO.out.aB (aj j) (by simp));have b0:=C.out.cell 0 _ rfl;have b1:=C.out.cell 1 _ rfl;have b2:=C.out.cell 2 _ rfl;have b3:=C.out.cell 3 _ rfl;have bz:=C.out.fz;clear j);refine bodyPost_ret (v:=.agg #[.slice none 0 0,.slice none 0 0,.int .i64 0,.int .i64 1]) (by simp[results,Tryz.results214,go_sem,b0,b1,b2,b3]) rfl ?_;rw[HT.out.1,HT.out.2];exact zv 1 (Jy ab.out _ _ _ _)
  ·obtain⟨R,a0⟩:=jo HQ.out;have aR:=aa R;have ah:=aa (fun es hp hu=>DB (es:=es) R hp hu);have af:Hid (∀I:World,Below w.heap.size w I->Calls Tryz.prog 252 #[.pointer (some ⟨I.heap.size+1,0,none⟩),.slice ao ns.length cap] ((I.alloc (.map #[] 0)).alloc (.cells #[.slice none 0 0,.slice none 0 0,.int .i64 0,.map (some I.heap.size)] 309)) fun e w'=>pI ((I.alloc (.map #[] 0)).alloc (.cells #[.slice none 0 0,.slice none 0 0,.int .i64 0,.map (some I.heap.size)] 309)) w' w.heap.size (I.heap.size+1) I.heap.size (I.heap.size+2) 0 e ns [] (E5 ns).1 (E5 ns).2.2):=aa (fun I U=>AK 10 [] ns [] _ _ w.heap.size (I.heap.size+1) I.heap.size (I.heap.size+2) 0 _ _ _ R (fun n hn=>an.out n hn) ((HV.out.carry U).carry (((ae _ _).trans ((ae _ _).mono (by simp))).mono U.size)) (by have:=U.size;omega) (by have:=U.size;omega) U.size (IU I) ⟨by simp;omega,by simp;omega,by omega⟩);obtain⟨i,hi⟩:∃i,(E5 ns).1=i:=⟨_,rfl⟩;obtain⟨Z,hZ⟩:∃Z,(E5 ns).2.2=Z:=⟨_,rfl⟩;have aN:Hid (Z.eds.length<=1000):=aa (by have:=(uK 10 [] ns [] ⟨[],[],fun _=>0⟩ R).2.eds;rw[<-hZ];unfold E5;simp at this;omega);rw[hi,hZ]at af ah;have a2:∀W:World,(Instr.makeMap 307 none).run Tryz.prog W=.ok (.map (some W.heap.size)) (W.alloc (.map #[] 0)):=fun W=>rfl;clear R hi hZ;go_enter Tryz.func214,Tryz.ntmps214;go_wp2_with(first|(go_at_call 251;refine(av.out _ (ae w _)).mono ?_;rintro e T⟨rfl,j⟩;have ab:Hid (Below w.heap.size w T):=aa ((ae w _).trans (j.mono (by simp)));have C:=aa (HO.out.aB (aj j) (by simp));have ac:Hid (w.heap.size<T.heap.size):=aa (by have:=j.size;simp at this;omega);clear j)|(go_at_call 252;refine(af.out T ab.out).mono ?_;rintro e w3⟨v3,sv,ev,a3,rfl,-,l,-,ay⟩;have J:=aa l;have aq:Hid (gA T w3 (T.heap.size) []):=aa (Ds ay);obtain⟨ps,cs,rfl⟩:=ar l.st;obtain⟨pe,ce,rfl⟩:=ar l.ed;have x0:=l.box.cell 0 _ rfl;have x1:=l.box.cell 1 _ rfl;have x2:=l.box.cell 2 _ rfl;have xz:=l.box.fz;clear l ay)|(go_at_call 253;refine(yQ Z.eds (T.heap.size+2) (.slice pe Z.eds.length ce) (w3.setCell ⟨T.heap.size+1,2,none⟩ (.int .i64 i)) (J.out.ed.aB (aI w3 (T.heap.size+1) 2 (.int .i64 i)) (fun b U hm=>by have:=J.out.ed.fresh.lo b U;simp at hm;omega)) aN.out).mono ?_;rintro e w4⟨rfl,es,hp,hu,az,ad⟩;have HP:=aa hp;have HU:=aa hu;have aM:=aa az;have aL:=aa ad;have al:=aa (((J.out.box.set 2 (by simp) (.int .i64 i))).aB ad (fun hm=>by have:=J.out.ed.fresh.lo _ hm;omega));have y0:=al.out.cell 0 _ rfl;have y1:=al.out.cell 1 _ rfl;have y2:=al.out.cell 2 _ rfl;have P:=aa (((aq.out.box ac.out (by simp) C.out).aB (aI w3 (T.heap.size+1) 2 (.int .i64 i)) (by have:=ac.out;simp;omega)).aB ad (fun hm=>by have:=J.out.ed.fresh.lo _ hm;have:=ac.out;omega));have b0:=P.out.cell 0 _ rfl;have b1:=P.out.cell 1 _ rfl;have b2:=P.out.cell 2 _ rfl;have b3:=P.out.cell 3 _ rfl;have bz:=P.out.fz;clear hp hu az ad));refine bodyPost_ret (v:=.agg #[.slice ps Z.sts.length cs,.slice pe Z.eds.length ce,.int .i64 i,.int .i64 0]) (by simp[results,Tryz.results214,go_sem,b0,b1,b2,b3]) rfl ?_;rw[HT.out.1,HT.out.2,if_pos trivial,if_pos trivial,(ah.out es HP.out HU.out).2];exact Ir ab.out ac.out J.out aq.out aL.out aM.out _ _ _ _
end
structure AD(S:List aP)(e:aA):Prop where
 s0:0<=e.src
 s1:e.src<(S.length:Int)
 d0:0<=e.dst
 d1:e.dst<(S.length:Int)
 nm:cA e.label=true
 so:0<=e.sort/\e.sort<=2
 kd:∃x,S[e.src.toNat]?=some x/\x.kind≠0
theorem AD.more{S:List aP}{e:aA}(h:AD S e)(T:List aP):AD (S++T) e:=by obtain⟨x,C,l⟩:=h.kd;have j:(S++T).length=S.length+T.length:=List.length_append;have I:=h.s1;have J:=h.d1;refine⟨h.s0,by rw[j];omega,h.d0,by rw[j];omega,h.nm,h.so,x,?_,l⟩;rw[List.getElem?_append_left (by have:=h.s0;omega)];exact C
structure Hj(st l:List Nd)(fs:ByteArray->Int)(n:Nat):Prop where
 said:∀t,eR false st t=true->0<=fs t/\fs t<(n:Int)
 open_:fH l=false->∀t,bW st t=true->0<=fs t/\fs t<=(n:Int)
structure Gd(st:List Nd)(fs:ByteArray->Int)(sts:List aP)(eds:List aA)(o:Wv):Prop where
 sts:∃sN,o.sts=sts++sN/\∀x∈sN,ll x=true
 eds:∃eN,o.eds=eds++eN/\∀e∈eN,AD o.sts e
 fs:∀t,bW st t=true->o.fs t=fs t
theorem Gd.trans{st:List Nd}{fs:ByteArray->Int}{sts:List aP}{eds:List aA}{o P:Wv}(h:Gd st fs sts eds o)(C:Gd st o.fs o.sts o.eds P):Gd st fs sts eds P:=by
 obtain⟨s1,T,k1⟩:=h.sts;obtain⟨R,I,k2⟩:=C.sts;obtain⟨d1,U,g1⟩:=h.eds;obtain⟨d2,f2,g2⟩:=C.eds;refine⟨⟨s1++R,by rw[I,T,List.append_assoc],fun x l=>?_⟩,⟨d1++d2,by rw[f2,U,List.append_assoc],fun e j=>?_⟩,fun t J=>(C.fs t J).trans (h.fs t J)⟩;·
  rcases List.mem_append.1 l with l|l;·exact k1 x l
  ·exact k2 x l
 ·rcases List.mem_append.1 j with j|j;·rw[I];exact(g1 e j).more R
  ·exact g2 e j
theorem Gd.more{st:List Nd}{fs:ByteArray->Int}{sts:List aP}{eds:List aA}{o:Wv}(h:Gd st fs sts eds o):sts.length<=o.sts.length:=by obtain⟨s,e,-⟩:=h.sts;rw[e,List.length_append];omega
def J1(f:Nat):Prop:=∀(st l r:List Nd)(fs:ByteArray->Int)(sts:List aP)(eds:List aA),ahead (bC true) f st l=some r->je st->Hj st l fs sts.length->Gd st fs sts eds (wv f l ⟨sts,eds,fs⟩).2.2/\0<=(wv f l ⟨sts,eds,fs⟩).1/\(wv f l ⟨sts,eds,fs⟩).1<((wv f l ⟨sts,eds,fs⟩).2.2.sts.length:Int)
theorem Fl{c:Nd}(h:eE c=true):cA c.name=true/\0<=c.sort/\c.sort<=2:=by
 simp only[eE,Bool.and_eq_true]at h;obtain⟨⟨-,j⟩,l⟩:=h;refine⟨?_,?_⟩;·simp only[cX,Bool.and_eq_true]at j;exact j.1
 ·simpa[la]using l
theorem zQ{f:Nat}(hf:J1 f)(st:List Nd)(C:je st)(s:Nat):∀(m:Nat)(ls:List ByteArray)(l r:List Nd)(fs:ByteArray->Int)(sts:List aP)(eds:List aA),bA (ahead (bC true) f st) m ls l=some r->s<sts.length->(∃x,sts[s]?=some x/\x.kind≠0)->(∀t,bW st t=true->0<=fs t/\fs t<(sts.length:Int))->Gd st fs sts eds (dv (wv f) (s:Int) m l ⟨sts,eds,fs⟩).2
 |0,ls,l,r,fs,sts,eds,h,_,_,_=>⟨⟨[],by simp[dv],by simp⟩,⟨[],by simp[dv],by simp⟩,fun _ _=>rfl⟩|m+1,ls,[],r,fs,sts,eds,h,_,_,_=>by cases h|m+1,ls,c::l,r,fs,sts,eds,h,hs,hk,j=>by
  rw[bA]at h;split at h;·
   rename_i R;simp only[Bool.and_eq_true,Bool.not_eq_true']at R;obtain⟨hn,ac⟩:=Fl R.1;split at h;·cases h
   ·rename_i r1 U;have ab:Hj st l fs sts.length:=⟨fun t I=>j t (jL st C t I),fun _ t I=>⟨(j t I).1,by have:=(j t I).2;omega⟩⟩;obtain⟨g1,i0,i1⟩:=hf st l r1 fs sts eds U C ab;have e1:=(uK f st l r1 ⟨sts,eds,fs⟩ U).1;have hz:=g1.more;rw[dv,e1];obtain⟨o,ho⟩:∃o,(wv f l ⟨sts,eds,fs⟩).2.2=o:=⟨_,rfl⟩;obtain⟨i,hi⟩:∃i,(wv f l ⟨sts,eds,fs⟩).1=i:=⟨_,rfl⟩;rw[ho]at g1 i1 hz|-;rw[hi]at i0 i1|-;obtain⟨sN,es,ks⟩:=g1.sts;have T:∃x,o.sts[s]?=some x/\x.kind≠0:=by obtain⟨x,hx,J⟩:=hk;exact⟨x,by rw[es,List.getElem?_append_left hs];exact hx,J⟩
    have g2:=zQ hf st C s m (ls++[c.name]) r1 r o.fs o.sts (o.eds++[⟨(s:Int),c.name,c.sort,i⟩]) h (by omega) T (fun t I=>by rw[g1.fs t I];have:=j t I;omega);refine g1.trans ⟨g2.sts,?_,g2.fs⟩;obtain⟨eN,f2,k2⟩:=g2.eds;refine⟨[⟨(s:Int),c.name,c.sort,i⟩]++eN,by rw[f2,List.append_assoc],fun e P=>?_⟩;rcases List.mem_append.1 P with P|P;·obtain⟨s2,e2,-⟩:=g2.sts;simp at P;subst P;rw[e2];refine AD.more ⟨by show(0:Int)<=(s:Int);omega,by show(s:Int)<_;omega,i0,i1,hn,ac,?_⟩ s2;obtain⟨x,hx,J⟩:=T;exact⟨x,by simpa using hx,J⟩
    ·exact k2 e P
  ·cases h
theorem GG{n:Nd}(h:bC true n=true):(n.op=5\/n.op=6)/\cA n.peer=true:=by simp only[bC,Bool.and_eq_true,if_true]at h;obtain⟨⟨⟨j,-⟩,-⟩,-,l⟩:=h;refine⟨by simpa using l,?_⟩;simp only[cX,Bool.and_eq_true]at j;exact j.1
theorem zL{st:List Nd}{fs:ByteArray->Int}{sts:List aP}{eds:List aA}:Gd st fs sts eds ⟨sts,eds,fs⟩:=⟨⟨[],by simp,by simp⟩,⟨[],by simp,by simp⟩,fun _ _=>rfl⟩
theorem rl{st:List Nd}{fs:ByteArray->Int}{sts:List aP}{eds:List aA}{x:aP}(h:ll x=true):Gd st fs sts eds ⟨sts++[x],eds,fs⟩:=⟨⟨[x],rfl,by simpa using h⟩,⟨[],by simp,by simp⟩,fun _ _=>rfl⟩
theorem uy{n:Nd}(h:ic n=true):ll ⟨eF n.op,n.peer⟩=true/\n.many.toNat=0:=by simp only[ic,Bool.and_eq_true,beq_iff_eq]at h;obtain⟨⟨⟨⟨j,-⟩,l⟩,C⟩,-⟩:=h;refine⟨?_,by rw[C];rfl⟩;rw[j];show(if(eF 0==0)=true then n.peer.toList==[]else _)=true;rw[if_pos (by decide),l];rfl
theorem JP:∀f:Nat,J1 f:=by
 intro f;induction f with
  |zero=>
   intro st l r fs sts eds h U J;cases l with
    |nil=>cases h|cons n l=>
     rw[wv];by_cases R:(n.op==1)=true;·
      rw[if_pos R];rw[dr (by simpa using R)]at h;split at h;·rename_i I;simp only[Bool.and_eq_true]at I;have:=J.said _ I.2;exact⟨zL,this.1,this.2⟩
      ·cases h
     ·rw[if_neg R];by_cases h0:n.op=0;·
       rw[db h0]at h;split at h;·rename_i I;exact⟨rl (uy I).1,by show(0:Int)<=(sts.length:Int);omega,by show(sts.length:Int)<((sts++[_]).length:Int);rw[List.length_append,List.length_singleton];omega⟩
       ·cases h
      ·rw[fm h0 (by simpa using R)]at h;cases h
  |succ f ih=>
   intro st l r fs sts eds h U J;cases l with
    |nil=>cases h|cons n l=>
     rw[wv];by_cases R:(n.op==1)=true;·
      rw[if_pos R];rw[dr (by simpa using R)]at h;split at h;·rename_i I;simp only[Bool.and_eq_true]at I;have:=J.said _ I.2;exact⟨zL,this.1,this.2⟩
      ·cases h
     ·rw[if_neg R];by_cases T:(n.op==2)=true;·
       rw[if_pos T];have ab:n.op=2:=by simpa using T
       rw[dA ab]at h;split at h;·
        rename_i I;simp only[Bool.and_eq_true,Bool.not_eq_true']at I;have ad:=I.2;have P:je (n::st):=⟨.inr ⟨ab,by rw[<-fY];exact ad⟩,U⟩;have ac:fH (n::l)=fH l:=by rw[fH,if_neg (by rw[ab];decide),if_pos T]
        have af:Hj (n::st) l (fun x=>if x=n.name then(sts.length:Int)else fs x) sts.length:=by
         refine⟨fun t j=>?_,fun hc t j=>?_⟩;·
          rw[eR,if_pos T]at j;split at j;·cases j
          ·have hw:=jL st U t j;have C:t≠n.name:=fun e=>by rw[e,ad]at hw;cases hw
           show 0<=(if t=n.name then(sts.length:Int)else fs t)/\(if t=n.name then(sts.length:Int)else fs t)<_;rw[if_neg C];exact J.said t j
         ·show 0<=(if t=n.name then(sts.length:Int)else fs t)/\(if t=n.name then(sts.length:Int)else fs t)<=_;by_cases C:t=n.name;·rw[if_pos C];omega
          ·rw[if_neg C];have hw:bW st t=true:=by
            rw[bW,List.any_cons,Bool.or_eq_true]at j;rcases j with j|j;·simp only[Bool.and_eq_true]at j;exact absurd (gi.1 j.2).symm C
            ·exact j
           exact J.open_ (by rw[ac];exact hc) t hw
        obtain⟨g,i0,i1⟩:=ih (n::st) l r _ sts eds h P af;refine⟨⟨g.sts,g.eds,fun t j=>?_⟩,i0,i1⟩;have C:t≠n.name:=fun e=>by rw[e,ad]at j;cases j
        have:=g.fs t (by rw[bW,List.any_cons];rw[bW]at j;rw[j];simp);rw[this];show(if t=n.name then _ else fs t)=_;rw[if_neg C]
       ·cases h
      ·rw[if_neg T];have al:∀t,bW (n::st) t=bW st t:=fun t=>by rw[bW,List.any_cons,Bool.eq_false_iff.2 T];simp[bW]
       have ac:fH (n::l)=false:=by rw[fH,if_neg R,if_neg T]
       by_cases h0:n.op=0;·
        rw[db h0]at h;split at h;·rename_i I;rw[(uy I).2,dv];exact⟨rl (uy I).1,by show(0:Int)<=(sts.length:Int);omega,by show(sts.length:Int)<((sts++[_]).length:Int);rw[List.length_append,List.length_singleton];omega⟩
        ·cases h
       ·rw[fA h0 (by simpa using R) (by simpa using T)]at h;split at h;·
         rename_i hT;obtain⟨ah,ao⟩:=GG hT;have P:je (n::st):=⟨.inl (by simpa using T),U⟩;have aq:(sts++[(⟨eF n.op,n.peer⟩:aP)]).length=sts.length+1:=by simp
         have hm:ll ⟨eF n.op,n.peer⟩=true:=by rcases ah with e|e<;>rw[e]<;>simp[ll,eF,ao,iR]
         have an:(eF n.op)≠0:=by rcases ah with e|e<;>rw[e]<;>decide
         have g:=zQ ih (n::st) P sts.length n.many.toNat [] l r fs (sts++[⟨eF n.op,n.peer⟩]) eds h (by omega) ⟨⟨eF n.op,n.peer⟩,by simp,an⟩ (fun t j=>by have:=J.open_ ac t (by rw[<-al];exact j);omega);have g':=Gd.trans (rl (st:=st) (fs:=fs) (sts:=sts) (eds:=eds) hm) ⟨g.sts,g.eds,fun t j=>g.fs t (by rw[al];exact j)⟩;have:=g.more;exact⟨g',by show(0:Int)<=(sts.length:Int);omega,by show(sts.length:Int)<_;simp only at this|-;omega⟩
        ·cases h
theorem Cf{l:List aA}(j:Up l)(C:l.Pairwise fun a b=>¬(a.src=b.src/\a.label=b.label)):l.Pairwise fun a b=>bQ a b=true:=by refine(j.and C).imp ?_;rintro a b⟨h,J⟩;cases I:bQ a b with|true=>rfl|false=>exact absurd (re I h) J
theorem ym{ns:List Nd}(h:cK true ns=true):cP (jI ns)=true:=by
 obtain⟨ha,aN⟩:=jo h;have ad:Inv [] ns (fun _=>0) [] []:=⟨rfl,rfl,(fun t U=>by cases U),(fun _ t U=>by cases U)⟩;obtain⟨e1,new,aL,az,I,ho,hq,av,_,_⟩:=Hg 10 [] ns [] (fun _=>0) [] [] [] [] [] ha trivial ad;obtain⟨C,aM,l,i,aq,_,hn⟩:=DO 10 [] ns [] (fun _=>0) [] [] ha;obtain⟨g,i0,i1⟩:=JP 10 [] ns [] (fun _=>0) [] [] ha trivial ⟨fun t U=>(by cases U),fun _ t U=>(by cases U)⟩;obtain⟨-,gl⟩:=uK 10 [] ns [] ⟨[],[],fun _=>0⟩ ha;have ab:=gl.sts;have R:=gl.eds;rw[aq]at ho g i0 i1 ab R e1;simp only[List.nil_append,Prod.mk.injEq,Wv.mk.injEq,true_and]at ho;obtain⟨rfl,rfl,rfl⟩:=ho;simp only[List.length_nil,Nat.add_zero,Nat.zero_add]at ab R i0 i1 e1;obtain⟨sN,es,ks⟩:=g.sts;obtain⟨eN,ee,ke⟩:=g.eds;simp only[List.nil_append]at es ee;rw[<-es]at ks;rw[<-ee]at ke;have ax:Up I:=by
  have:=He 10 [] [] ns ([],[]) (List.Pairwise.nil);have e:(sv 10 [] [] ns ([],[])).2.2=I:=by rw[hq]
  rwa[e]at this
 have J:I.Perm C:=by simpa using av
 have ah:=Cf ax (hn.two.perm J.symm (fun h hk=>h ⟨hk.1.symm,hk.2.symm⟩));have hM:jI ns=⟨l,I,i⟩:=by unfold jI;rw[show Hc ns=([],l,I)from hq,e1];rfl
 have ay:I.length=C.length:=J.length_eq;have ao:([]++C:List aA).length=C.length:=by simp
 rw[hM];unfold cP;simp only[Bool.and_eq_true];refine⟨?_,List.all_eq_true.2 ks,List.all_eq_true.2 fun j hj=>?_⟩;·unfold mr;simp only[iR,Bool.and_eq_true,decide_eq_true_eq];have ac:=R;rw[ao]at ac;refine⟨⟨by omega,by omega⟩,by omega,i0,by omega⟩
 ·have T:j<I.length:=by simpa using hj
  have al:∀e∈I,AD l e:=fun e he=>ke e (J.mem_iff.1 he);have af:∀e∈I,sV ⟨l,I,i⟩ e=true:=fun e he=>by
   have P:=al e he;obtain⟨x,hx,hk⟩:=P.kd;have a1:=P.s0;have a2:=P.s1;have a3:=P.d0;have a4:=P.d1;have an:oW ⟨l,I,i⟩ e.src=x.kind:=by unfold oW;rw[hx]
   unfold sV;rw[P.nm,an];simp only[iR,Bool.and_eq_true,decide_eq_true_eq,Bool.not_eq_true',beq_eq_false_iff_ne];exact⟨⟨a1,by omega⟩,⟨a3,by omega⟩,trivial,⟨P.so.1,P.so.2⟩,hk⟩
  unfold gG;rw[List.getElem?_eq_getElem T];simp only[Bool.and_eq_true];refine⟨af _ (List.getElem_mem T),?_⟩;cases j with|zero=>rfl|succ j=>simp only[Nat.add_sub_cancel];rw[List.getElem?_eq_getElem (by omega)];exact(List.pairwise_iff_getElem.1 ah) j (j+1) (by omega) T (by omega)
theorem sd{n:Nd}(h:ic n=true):n.peer=ByteArray.empty/\n.many=0:=by simp only[ic,Bool.and_eq_true,beq_iff_eq]at h;refine⟨?_,h.1.2⟩;have j:=h.1.1.2;rw[Go.ByteArray.toList_eq]at j;apply ByteArray.ext;exact Array.ext' j
theorem GH{n:Nd}(h:bC true n=true):(n.op=5\/n.op=6)/\1<=n.many/\n.many<=4:=by simp only[bC,jJ,Bool.and_eq_true,Bool.or_eq_true,decide_eq_true_eq,beq_iff_eq,if_true]at h;exact⟨h.2.2,h.1.1.2⟩
theorem yo:∀f:Nat,lO f:=by
 intro f;induction f with
  |zero=>
   intro st all r pos w xb B base v sv ev z nv fv sts eds ns fis ha l j I ac T ab h;have U:all.drop pos=all[pos]::all.drop (pos+1):=List.drop_eq_getElem_cons j;rw[U]at ha|-;have ad:sts.length<=1000:=by have:=qD all pos;omega
   by_cases C:all[pos].op=1;·rw[Go.Proofs.YtdiiiijkhpdcbaaGreatDoor.sv,if_pos (by simpa using C)];exact wS all pos w xb B base v sv ev z nv fv sts eds ns fis l j C h
   ·by_cases P:all[pos].op=0;·
     rw[db P]at ha;split at ha;·rename_i he;rw[Go.Proofs.YtdiiiijkhpdcbaaGreatDoor.sv,if_neg (by simpa using C),(sd he).1,P];exact wR all pos w xb B base v sv ev z nv fv sts eds ns fis l j P ad h
     ·cases ha
    ·rw[fm P C]at ha;cases ha|succ f ih=>
   intro st all r pos w xb B base v sv ev z nv fv sts eds ns fis ha l j I ac T ab h;have U:all.drop pos=all[pos]::all.drop (pos+1):=List.drop_eq_getElem_cons j;rw[U]at ha|-;have ad:sts.length<=1000:=by have:=qD all pos;omega
   by_cases C:all[pos].op=1;·rw[Go.Proofs.YtdiiiijkhpdcbaaGreatDoor.sv,if_pos (by simpa using C)];exact wS all pos w xb B base v sv ev z nv fv sts eds ns fis l j C h
   ·by_cases R:all[pos].op=2;·
     rw[dA R]at ha;split at ha;·rw[Go.Proofs.YtdiiiijkhpdcbaaGreatDoor.sv,if_neg (by simpa using C),if_pos (by simpa using R)];obtain⟨n,hn⟩:∃n,all[pos]=n:=⟨_,rfl⟩;rw[hn]at R ha|-;obtain⟨op,name,J,many,sort⟩:=n;dsimp only at R;subst R;exact DC f ih st all r pos w xb B base v sv ev z nv fv sts eds ns fis name J many sort j hn ha l I ac T ab h
     ·cases ha
    ·by_cases P:all[pos].op=0;·
      rw[db P]at ha;split at ha;·rename_i he;rw[Go.Proofs.YtdiiiijkhpdcbaaGreatDoor.sv,if_neg (by simpa using C),if_neg (by simpa using R),(sd he).1,(sd he).2,P];exact wR all pos w xb B base v sv ev z nv fv sts eds ns fis l j P ad h
      ·cases ha
     ·rw[fA P C R]at ha;split at ha;·rename_i ht;rw[Go.Proofs.YtdiiiijkhpdcbaaGreatDoor.sv,if_neg (by simpa using C),if_neg (by simpa using R)];obtain⟨n,hn⟩:∃n,all[pos]=n:=⟨_,rfl⟩;rw[hn]at ht ha|-;obtain⟨op,name,J,many,sort⟩:=n;have af:=GH ht;dsimp only at af ha|-;obtain⟨M,hM⟩:∃M:Nat,many=(M:Int):=⟨many.toNat,by omega⟩;subst hM;rw[Int.toNat_natCast]at ha|-;exact Bs f ih _ all r pos w xb B base v sv ev z nv fv sts eds ns fis op (eF op) name J M sort j hn (by rcases af.1 with rfl|rfl;exact .inl ⟨rfl,rfl⟩;exact .inr ⟨rfl,rfl⟩) (by omega) ha l I ac T ab h
      ·cases ha
section
attribute [local go_sem ↓] Go.wp_at_zero Go.wp_at_succ
theorem Iq{w:World}{B:Nat}{v:Value}{all:List Nd}(o:Obj)(j:B<=w.heap.size)(l:bG w B v all):dx ((w.alloc o).alloc (.cells #[v,.slice none 0 0,.slice none 0 0,.int .i64 0,.slice none 0 0,.slice none 0 0] 283)) (w.heap.size+1) B (w.heap.size+2) v (.slice none 0 0) (.slice none 0 0) 0 (.slice none 0 0) (.slice none 0 0) all [] [] [] []:=by refine⟨?_,l.carry (((ae w o).trans ((ae _ _).mono (by simp))).mono j),cF.nil _ _,bD.nil _ _,de _ _ _ _,de _ _ _ _,by constructor<;>simp[ag,aJ],⟨by omega,by omega⟩,by simp⟩;have:=aW.new (w.alloc o) [v,.slice none 0 0,.slice none 0 0,.int .i64 0,.slice none 0 0,.slice none 0 0] 283;simpa using this
theorem DJ{w:World}{xb B base:Nat}{v sv ev:Value}{z:Int}{nv fv:Value}{all:List Nd}{sts:List aP}{eds:List aA}{ns:List ByteArray}{fis:List Int}(h:dx w xb B base v sv ev z nv fv all sts eds ns fis)(x:Int):dx (w.setCell ⟨xb,3,none⟩ (.int .i64 x)) xb B base v sv ev x nv fv all sts eds ns fis/\eZ w (w.setCell ⟨xb,3,none⟩ (.int .i64 x)) base xb:=by
 have C:=h.low;have j:=aI w xb 3 (.int .i64 x);have I:=j.jk h.sz (xb:=xb) (fun b l=>by simp at l;exact .inl l);have off:∀{u:Value},dy base w u->∀b∈ag u,b∉[xb]:=fun hd b l J=>by simp at J;have:=hd.lo b l;omega
 exact⟨⟨h.box.set 3 (by simp) _,I.sl C.1 C.2 h.sl,h.st.aB j (off h.st.fresh),h.ed.aB j (off h.ed.fresh),aK h.nm j (off (ak h.nm)),aK h.fi j (off (ak h.fi)),h.four,C,Nat.le_trans h.sz j.size⟩,I⟩
structure GR(w w':World)(e:Ending)(m:cB):Prop where
 I4:∃sv ev,e=.returned (.agg #[sv,ev,.int .i64 m.start])/\cF w' w.heap.size sv m.ai/\bD w' w.heap.size ev m.aH/\(∀b∈ag sv,b∉ag ev)
 bU:Below w.heap.size w w'
theorem tH{w w3:World}{l C:Obj}(h:eZ ((w.alloc l).alloc C) w3 (w.heap.size+2) (w.heap.size+1)):Below w.heap.size w w3:=have I:Below w.heap.size w ((w.alloc l).alloc C):=(ae _ _).trans ((ae _ _).mono (by simp));⟨h.os,h.tape,h.output,by have:=h.size;simp at this;omega,fun b j=>(h.block b (by omega) (by omega)).trans (I.block b j)⟩
theorem Gr(ns:List Nd)(v:Value)(w:World)(T:ahead (bC true) 10 [] ns=some [])(ay:ns.length<=40)(hv:bG w w.heap.size v ns):Calls Tryz.prog 201 #[v] w fun e w'=>GR w w' e (jI ns):=by
 have av:0<ns.length:=by cases ns with|nil=>cases T|cons=>simp
 have aq:¬(∀n∈ns.drop 0,n.op=2):=by rw[List.drop_zero];exact jB _ _ _ _ T
 obtain⟨fst,I⟩:∃x,bK [] [] 0 ns=x:=⟨_,rfl⟩;have an:Hid (jI ns=⟨(Hc ns).2.1,(Hc ns).2.2,fst⟩):=aa (by rw[<-I];rfl);have af:Hid (∀(W:World)(xb B base:Nat),dx W xb B base v (.slice none 0 0) (.slice none 0 0) 0 (.slice none 0 0) (.slice none 0 0) ns [] [] [] []->Calls Tryz.prog 238 #[.pointer (some ⟨xb,0,none⟩),.int .i64 0] W fun e w'=>e=.returned (.int .i64 fst)/\Below W.heap.size W w'):=aa (fun W xb B base hW=>by have:=lD ns [] [] rfl (by simp) (by omega) _ 0 xb W.heap.size W rfl aq hW.C5 (Nat.le_refl _);rw[List.drop_zero]at this;rw[show((jg ns 0:Nat):Int)=0 by simp[jg],I]at this;exact this);have al:Hid (∀(W:World)(xb B base:Nat),dx W xb B base v (.slice none 0 0) (.slice none 0 0) fst (.slice none 0 0) (.slice none 0 0) ns [] [] [] []->Calls Tryz.prog 239 #[.pointer (some ⟨xb,0,none⟩),.int .i64 0] W fun e w'=>Made W w' xb B base v fst (dz (.slice none 0 0) (.slice none 0 0) (.slice none 0 0) (.slice none 0 0)) ns [] [] e (Hc ns)):=aa (fun W xb B base hW=>by have:=yo 10 [] ns [] 0 W xb B base v _ _ fst _ _ [] [] [] [] (by rw[List.drop_zero];exact T) ay av rfl (by simp) (by simp[jg]) (by simp;omega) hW;rw[List.drop_zero]at this;exact this);have C:Hid (∀o:Obj,dx ((w.alloc o).alloc (.cells #[v,.slice none 0 0,.slice none 0 0,.int .i64 0,.slice none 0 0,.slice none 0 0] 283)) (w.heap.size+1) w.heap.size (w.heap.size+2) v (.slice none 0 0) (.slice none 0 0) 0 (.slice none 0 0) (.slice none 0 0) ns [] [] [] []):=aa (fun o=>Iq o (Nat.le_refl _) hv);have ax:Hid (∀(o2:Obj)(J:World),eZ ((w.alloc (.cells #[.slice none 0 0,.slice none 0 0,.int .i64 0] 66)).alloc o2) J (w.heap.size+2) (w.heap.size+1)->aW J w.heap.size [.slice none 0 0,.slice none 0 0,.int .i64 0]):=aa (fun o2 J hk=>by have h0:aW ((w.alloc (.cells #[.slice none 0 0,.slice none 0 0,.int .i64 0] 66)).alloc o2) w.heap.size [.slice none 0 0,.slice none 0 0,.int .i64 0]:=(aW.new w [.slice none 0 0,.slice none 0 0,.int .i64 0] 66).aB (aj (ae _ _)) (by simp);have hb:=hk.block w.heap.size (by omega) (by omega);exact⟨fun i v hv=>(World.cell?_of_block (a:=⟨w.heap.size,i,none⟩) hb).trans (h0.cell i v hv),fun o=>(World.frozen?_of_block (a:=⟨w.heap.size,o,none⟩) hb).trans (h0.fz o),Nat.lt_of_lt_of_le h0.lt hk.size⟩);obtain⟨O,hO⟩:∃O,Hc ns=O:=⟨_,rfl⟩;rw[hO]at al an;obtain⟨ao,cap,rfl,hc,hm,hr⟩:=hv;clear hr aq I hO T;go_enter Tryz.func201,Tryz.ntmps201;go_wp2_with(first|(go_at_call 239;refine(al.out _ _ _ _ P.out.1).mono ?_;rintro e J⟨aN,az,aM,aL,rfl,j,ad,-⟩;obtain⟨ps,cs,rfl⟩:=ar j.st;obtain⟨pe,ce,rfl⟩:=ar j.ed;have l:=aa j;have ah:=aa ad;have y1:=j.box.cell 1 _ rfl;have y2:=j.box.cell 2 _ rfl;have y3:=j.box.cell 3 _ rfl;have R:=aa (show aW J w.heap.size [.slice none 0 0,.slice none 0 0,.int .i64 0]from ax.out _ J ((U.out.trans P.out.2).trans ad));have r0:=R.out.cell 0 _ rfl;have r1:=R.out.cell 1 _ rfl;have r2:=R.out.cell 2 _ rfl;have rz:=R.out.fz;clear j ad)|(go_at_call 238;refine(af.out _ _ _ _ (C.out _)).mono ?_;rintro e w2⟨rfl,ac⟩;have ab:=aa ((C.out _).tu (ja.du ac));have U:=aa ((ja.du ac).ap.jk (C.out _).sz (xb:=w.heap.size+1) (by simp));have P:=aa (DJ ab.out fst);have x3:=ab.out.box.cell 3 _ rfl;have xz:=ab.out.box.fz;clear ac));refine bodyPost_ret (v:=.agg #[.slice ps O.2.1.length cs,.slice pe O.2.2.length ce,.int .i64 fst]) (by simp[results,Tryz.results201,go_sem,r0,r1,r2]) rfl ?_;rw[an.out];have hA:aG J (((J.setCell ⟨w.heap.size,0,none⟩ (.slice ps O.2.1.length cs)).setCell ⟨w.heap.size,1,none⟩ (.slice pe O.2.2.length ce)).setCell ⟨w.heap.size,2,none⟩ (.int .i64 fst)) [w.heap.size]:=((aI J w.heap.size 0 _).setCell 1 _).setCell 2 (.int .i64 fst);have off:∀{u:Value},dy (w.heap.size+2) J u->∀b∈ag u,b∉[w.heap.size]:=fun hd b hb hm=>by simp at hm;have:=hd.lo b hb;omega
 exact⟨⟨_,_,rfl,bH (l.out.st.aB hA (off l.out.st.fresh)) (by omega),bH (l.out.ed.aB hA (off l.out.ed.fresh)) (by omega),l.out.four.se⟩,(tH ((U.out.trans P.out.2).trans ah.out)).trans (hA.below (tH ((U.out.trans P.out.2).trans ah.out)).size (by simp))⟩
end
