import Derived.Test.YtlbcnmcfljaijaaGreatQN24
import Derived.Test.YtlbcnmcfljaijaaGreatQN36
import Derived.Test.YtlbcnmcfljaijaaGreatQN31
import Derived.Test.YtlbcnmcfljaijaaGreatQN15
import Derived.Test.YtlbcnmcfljaijaaGreatQN06
import Derived.Test.YtlbcnmcfljaijaaGreatQN28
import Derived.Test.YtlbcnmcfljaijaaGreatQN10
import Derived.Test.YtlbcnmcfljaijaaGreatQN21
import Derived.Test.YtlbcnmcfljaijaaGreatQN16
import Derived.Test.YtlbcnmcfljaijaaGreatQN37
namespace Go.Proofs.YtlbcnmcfljaijaaGreat
open Go.RowKit
set_option linter.unusedSimpArgs false
set_option linter.unusedVariables false
set_option maxHeartbeats 4000000
set_option maxRecDepth 100000
section
attribute [local go_sem ↓] Go.wp_at_zero Go.wp_at_succ
theorem bR.parts{w:World}{B:Nat}{v:Value}{n:Nd}{l:List Nd}(h:bR w B v (n::l)):∃b o cap,v=.slice (some ⟨b,o,none⟩) (n::l).length cap∧(n::l).length≤cap∧(cap≤9223372036854775807∧l.length<4294967296)∧b<B∧bO w b o (n::l):=by obtain⟨R,cap,rfl,j,C,I⟩:=h;obtain⟨b,o,rfl,J,P⟩:=I (by simp);exact⟨b,o,cap,rfl,j,C,J,P⟩
theorem pQ{w w':World}{base l mb:Nat}(h:Kept w w' base [l]):Kept w w' base [l,mb]:=⟨h.os,h.tape,h.output,h.size,fun b C j=>h.block b C (by simp at j;simp[j.1])⟩
theorem DT{go:List Nd→Option (List Nd)}{m:Nat}{ls:List ByteArray}{l r:List Nd}(h:aS go (m+1) ls l=some r):∃c l' j,l=c::l'∧go l'=some j∧aS go m (ls++[c.name]) j=some r:=by
 cases l with
  |nil=>cases h|cons c l'=>
   rw[aS]at h;split at h;·
    split at h;·cases h
    ·rename_i j C;exact⟨c,l',j,rfl,C,h⟩
   ·cases h
structure IG(w0 w:World)(B wb mb base nf0:Nat)(go:List Nd→Wv→Int×List Nd×Wv)(ka:List Nd→Option (List Nd))(s:Int)(l0 r:List Nd)(fin:List Nd×Wv)(m:Nat)(rv:Value)(lk:List Nd)(Wk:Wv)(sv ev:Value)(nf:Nat):Prop where
 sl:bR w B rv lk
 sh:Ad lk
 ah:∃ls,aS ka m ls lk=some r
 we:gW w wb mb base sv ev nf Wk
 same:cZ go s m lk Wk=fin
 fit:FI lk Wk nf
 nf:nf+lk.length≤nf0+l0.length
 kept:Kept w0 w base [wb,mb]
theorem rU(f:Nat)(many:Int)(hf:0<many→rM f)(st:List Nd)(op:Int)(name l:ByteArray)(sort:Int)(l1 r:List Nd)(w:World)(B C mb base nf b o cap:Nat)(sv ev:Value)(W:Wv)(a4:op≠1)(a5:op≠2)(bg:0≤many∧many≤4)(bk:Ad (⟨op,name,l,many,sort⟩::l1))(ha:aS (ahead (aQ true) f st) many.toNat [] l1=some r)(dp:b<B)(hB:B≤base∧B≤C∧B≤mb)(b5:(⟨op,name,l,many,sort⟩::l1:List Nd).length≤cap)(dz:cap≤9223372036854775807∧l1.length<4294967296)(a8:bO w b o (⟨op,name,l,many,sort⟩::l1))(h:gW w C mb base sv ev nf W)(ab:FI (⟨op,name,l,many,sort⟩::l1) W nf):Calls Tryz.prog 29 #[.pointer (some ⟨C,0,none⟩),.slice (some ⟨b,o,none⟩) (⟨op,name,l,many,sort⟩::l1:List Nd).length cap] w fun e w'=>ql w w' B C mb base nf e (⟨op,name,l,many,sort⟩::l1) r (W.sts.length:Int) (cZ (wv f) (W.sts.length:Int) many.toNat l1 ⟨W.sts++[⟨dW op,l⟩],W.eds,W.fs⟩).2:=by
 obtain⟨M,hM⟩:∃M:Nat,many=(M:Int):=⟨many.toNat,by omega⟩;subst hM;rw[Int.toNat_natCast]at ha⊢;have ee:M≤4:=by omega
 have H:=aa h;have I:=aa hB;have a9:=aa ha;have cx:=aa bk;have HF:=aa hf;have HT:Hid (∀ao,(cap≠1→ao=some ⟨b,o+5,none⟩)→bR w B (.slice ao l1.length (cap-1)) l1):=aa (fun ao ha=>bR.tail dp a8 b5 dz ao ha);have bp:=aa ab;have b8:=ab.sts;simp only[List.length_cons]at b8;have bn:Hid (∀V,gW V C mb base sv ev nf W→Calls Tryz.prog 70 #[.pointer (some ⟨C,0,none⟩),.agg #[.int .i64 op,.string name,.string l,.int .i64 (M:Int),.int .i64 sort]] V fun e w'=>∃ea,e=.returned (.int .i64 (W.sts.length:Int))∧gW w' C mb base ea ev nf ⟨W.sts++[⟨dW op,l⟩],W.eds,W.fs⟩∧Kept V w' base [C]∧aw V w' (an sv++[C])):=aa (fun V hV=>Bu ⟨op,name,l,M,sort⟩ V C mb base nf sv ev W (bk _ (List.mem_cons_self)) (by omega) hV);have b1:Hid (gW (w.alloc (.cells #[.int .i64 op,.string name,.string l,.int .i64 (M:Int),.int .i64 sort] 108)).drew C mb base sv ev nf W):=aa (h.below (aC w _).drew);have bs:Hid (Kept w (w.alloc (.cells #[.int .i64 op,.string name,.string l,.int .i64 (M:Int),.int .i64 sort] 108)).drew base [C,mb]):=aa (kO (aC w _).drew h.sz);have bz:Hid (w.heap.size∉an sv++[C]):=aa (by
  intro hm;rw[List.mem_append]at hm;rcases hm with hm|hm;·have:=h.st.fresh.hi _ hm;omega
  ·have:=h.box.lt;simp at hm;omega);have ec:Hid (C≠w.heap.size∧base≤w.heap.size):=aa (by have:=h.box.lt;have:=h.sz;omega);simp only[List.length_cons]at b5;obtain⟨⟨c0,c1,c2,c3,c4⟩,-⟩:=a8;dsimp only at c0 c1 c2 c3 c4;have ef:b<w.heap.size:=World.block_lt_of_cell? w _ c0;have hz:((l1.length:Int)+1==0)=false:=beq_eq_false_iff_ne.2 (by omega);have e1:(op==1)=false:=by simpa using a4
 have e2:(op==2)=false:=by simpa using a5
 clear h hB hf ha bk ab b8 a4 a5 bg;by_cases b7:cap=1;·
  subst b7;obtain rfl:l1=[]:=List.length_eq_zero_iff.1 (by omega);obtain rfl:M=0:=by cases M with|zero=>rfl|succ m=>have:=a9.out;cases this
  have b0:Hid (r=[]):=aa (by have:=a9.out;rw[aS]at this;injection this with this;exact this.symm);go_enter Tryz.func29,Tryz.ntmps29;go_wp2_with fail;go_region;go_wp2_with(go_at_call 70;refine(bn.out _ b1.out).mono ?_;rintro e w2⟨bm,rfl,ag,ac,U⟩;have ba:=aa ag;have P:=aa (bs.out.trans (pQ (mb:=mb) ac));have n3:w2.cell? ⟨w.heap.size,3,none⟩=some (.int .i64 ((0:Nat):Int)):=U.bN (by simp) bz.out;clear ag ac U);go_loopw[7,52](fun rv i wr=>rv=.slice (some ⟨b,o,none⟩) 0 0∧i=.int .i64 0∧wr=w2)(fun _ _ _=>0);case atStart=>exact⟨rfl,rfl,rfl⟩
  case round=>obtain⟨rfl,rfl,rfl⟩:=hrel;go_wp2_with fail;go_ret2;refine⟨_,bm,ev,nf,rfl,?_,by rw[cZ];exact ba.out,by rw[b0.out];simp,P.out⟩;rw[b0.out];exact P.out.sl I.out.1 (by intro x hx;simp at hx;rcases hx with rfl|rfl;exact I.out.2.1;exact I.out.2.2) (HT.out _ (fun h=>absurd rfl h))
 ·have cy:=aa (HT.out _ (fun _=>rfl));go_enter Tryz.func29,Tryz.ntmps29;go_wp2_with fail;go_region;go_wp2_with(go_at_call 70;refine(bn.out _ b1.out).mono ?_;rintro e w2⟨bm,rfl,ag,ac,U⟩;have ba:=aa ag;have P:=aa (bs.out.trans (pQ ac));have n3:w2.cell? ⟨w.heap.size,3,none⟩=some (.int .i64 (M:Int)):=U.bN (by simp) bz.out;clear ag ac U);go_loopw[7,52](fun rv i wr=>∃(k:Nat)(lk:List Nd)(Wk:Wv)(a1 ay:Value)(a0:Nat),k≤M∧i=.int .i64 k∧IG w wr B C mb base nf (wv f) (ahead (aQ true) f st) (W.sts.length:Int) (⟨op,name,l,(M:Int),sort⟩::l1) r (cZ (wv f) (W.sts.length:Int) M l1 ⟨W.sts++[⟨dW op,l⟩],W.eds,W.fs⟩) (M-k) rv lk Wk a1 ay a0)(fun _ i _=>M-(intOf i).toNat);case atStart=>
   refine⟨0,l1,_,bm,ev,nf,Nat.zero_le _,rfl,⟨?_,fun n hn=>cx.out n (List.mem_cons_of_mem _ hn),⟨[],a9.out⟩,ba.out,rfl,?_,by simp only[List.length_cons];omega,P.out⟩⟩;·exact P.out.sl I.out.1 (by intro x hx;simp at hx;rcases hx with rfl|rfl;exact I.out.2.1;exact I.out.2.2) cy.out
   ·have:=bp.out;exact⟨by have:=this.sts;simp only[List.length_cons,List.length_append,List.length_nil]at*;omega,by have:=this.eds;simp only[List.length_cons]at*;omega,by have:=this.KN;simp only[List.length_cons]at*;omega⟩
  case round=>
   obtain⟨k,lk,Wk,a1,ay,a0,hk,rfl,ch⟩:=hrel;have j:=aa ch;clear ch;by_cases d6:k<M;·
    obtain⟨m',d7⟩:∃m',M-k=m'+1:=⟨M-k-1,by omega⟩;have cu:Hid (M-(k+1)=m'):=aa (by omega);rw[d7]at j;obtain⟨ls,J⟩:=j.out.ah;obtain⟨c,l',r1,rfl,ad,cc⟩:=DT J;have bv:=aa ad;have bx:=aa cc;obtain⟨b2,o2,a2,rfl,cf,b6,df,cg⟩:=j.out.sl.parts;have a3:l'≠[]:=by rintro rfl;cases f<;>cases ad
    have d8:0<l'.length:=List.length_pos_iff.2 a3;simp only[List.length_cons]at cf;have d5:a2≠1:=by omega
    have cz:Hid (bR wr B (.slice (some ⟨b2,o2+5,none⟩) l'.length (a2-1)) l'):=aa (bR.tail df cg (by simp only[List.length_cons];exact cf) b6 _ (fun _=>rfl));obtain⟨q1,q2⟩:=vB f st l' r1 Wk ad;have ed:=aa q1;have av:=aa q2;have bL:=aa (Calls.mono (HF.out (by omega) st l' r1 _ wr B C mb base a0 a1 ay Wk ad (fun n hn=>j.out.sh n (List.mem_cons_of_mem _ hn)) cz.out I.out.1 I.out.2.1 I.out.2.2 j.out.we ⟨by have:=j.out.fit.sts;simp only[List.length_cons]at this;omega,by have:=j.out.fit.eds;simp only[List.length_cons]at this;omega,by have:=j.out.fit.KN;simp only[List.length_cons]at this;omega⟩) (fun e w' hh=>hh));obtain⟨i3,bf⟩:∃i,(wv f l' Wk).1=i:=⟨_,rfl⟩;obtain⟨W3,az⟩:∃X,(wv f l' Wk).2.2=X:=⟨_,rfl⟩;rw[bf,az]at bL;rw[az]at av;have ax:Hid (cZ (wv f) (W.sts.length:Int) (m'+1) (c::l') Wk=cZ (wv f) (W.sts.length:Int) m' r1 ⟨W3.sts,W3.eds++[⟨(W.sts.length:Int),c.name,c.sort,i3⟩],W3.fs⟩):=aa (by rw[cZ,q1,bf,az]);have eg:((l'.length:Int)+1==0)=false:=beq_eq_false_iff_ne.2 (by omega);obtain⟨c7,R,be,bb,T⟩:=c;clear J ad cc cg q1 q2 bf az a3;go_wp2_with(first|(go_at_call 29;refine bL.out.mono ?_;rintro e w3⟨v3,cs,c8,cr,rfl,h2,h3,h4,h5⟩;have H2:=aa h2;have H3:=aa h3;have H4:=aa h4;have H5:=aa h5;obtain⟨c6,b4,rfl,-⟩:=h2;have cv:=aa (h5.sl I.out.1 (by intro x hx;simp at hx;rcases hx with rfl|rfl;exact I.out.2.1;exact I.out.2.2) j.out.sl);obtain⟨b3,o3,eb,af,-,-,-,bi⟩:=cv.out.parts;injection af with af _ _;injection af with af;injection af with cl cn;subst cl;subst cn;obtain⟨⟨d0,d1,d2,d3,d4⟩,-⟩:=bi;dsimp only at d0 d1 d2 d3 d4;clear h3 h4 h5)|(go_at_call 71;refine(Dc ⟨c7,R,be,bb,T⟩ (W.sts.length:Int) i3 w3 C mb base cr cs c8 W3 (j.out.sh _ (List.mem_cons_self)) (by have:=av.out.eds;have:=j.out.fit.eds;simp only[List.length_cons]at this;omega) H3.out).mono ?_;rintro e w4⟨c9,rfl,cp,b9,-⟩;have c5:=aa cp;have br:=aa (pQ (mb:=mb) b9);clear cp b9));go_roundw;case rel=>
     refine⟨k+1,r1,⟨W3.sts,W3.eds++[⟨(W.sts.length:Int),R,T,i3⟩],W3.fs⟩,cs,c9,cr,d6,by go_num,?_⟩;rw[cu.out];refine⟨br.out.sl I.out.1 (by intro x hx;simp at hx;rcases hx with rfl|rfl;exact I.out.2.1;exact I.out.2.2) H2.out,fun n hn=>j.out.sh n (List.mem_cons_of_mem _ ((dn _ _ _ _ _ bv.out).subset hn)),⟨_,bx.out⟩,c5.out,ax.out.symm.trans j.out.same,⟨?_,?_,?_⟩,?_,(j.out.kept.trans H5.out).trans br.out⟩;·have:=av.out.sts;have:=j.out.fit.sts;simp only[List.length_cons]at this;dsimp only;omega
     ·have:=av.out.eds;have:=j.out.fit.eds;simp only[List.length_cons]at this;simp only[List.length_append,List.length_cons,List.length_nil];omega
     ·have:=H4.out;have:=j.out.fit.KN;simp only[List.length_cons]at this;omega
     ·have:=H4.out;have:=j.out.nf;simp only[List.length_cons]at*;omega
    case measure=>simp[intOf];omega
   ·obtain rfl:k=M:=by omega
    have d9:k-k=0:=Nat.sub_self k;rw[d9]at j;obtain⟨ls,J⟩:=j.out.ah;rw[aS]at J;injection J with J;subst J;have ax:=aa j.out.same;rw[cZ]at ax;obtain⟨c6,b4,rfl,-⟩:=j.out.sl;go_wp2_with fail;go_ret2;refine⟨_,a1,ay,a0,rfl,j.out.sl,?_,j.out.nf,j.out.kept⟩;rw[←ax.out];exact j.out.we
theorem xH{n:Nd}(h:gO n=true):n.many=0:=by simp only[gO,Bool.and_eq_true,beq_iff_eq]at h;exact h.1.2
theorem Ch{n:Nd}(h:aQ true n=true):1≤n.many∧n.many≤4:=by simp only[aQ,fB,Bool.and_eq_true,decide_eq_true_eq]at h;omega
theorem Bt:∀f:Nat,rM f:=by
 intro f;induction f with
  |zero=>
   intro st l r v w B wb mb base nf sv ev W j ab ad J P R ac I;cases l with
    |nil=>cases j|cons n l1=>
     obtain⟨b,o,cap,rfl,T,U,hb,hr⟩:=ad.parts;obtain⟨op,name,C,many,sort⟩:=n;by_cases h1:op=1;·
      subst h1;rw[cV rfl]at j;split at j;·injection j with j;subst j;exact Al name C many sort l1 w B wb mb base nf b o cap sv ev W (ab _ (List.mem_cons_self)).1 hb ⟨J,P,R⟩ T U hr ac
      ·cases j
     ·by_cases h0:op=0;·
       rw[bU h0]at j;split at j;·
        rename_i he;injection j with j;subst j;have hm:many=0:=xH he;subst hm;have:=rU 0 0 (fun h=>absurd h (by omega)) st op name C sort l1 l1 w B wb mb base nf b o cap sv ev W h1 (by omega) ⟨by omega,by omega⟩ ab rfl hb ⟨J,P,R⟩ T U hr ac I;have e1:(op==1)=false:=by simpa using h1
        rw[wv];simp only[e1];exact this
       ·cases j
      ·rw[ct h0 h1]at j;cases j
  |succ f ih=>
   intro st l r v w B wb mb base nf sv ev W j ab ad J P R ac I;cases l with
    |nil=>cases j|cons n l1=>
     obtain⟨b,o,cap,rfl,T,U,hb,hr⟩:=ad.parts;obtain⟨op,name,C,many,sort⟩:=n;by_cases h1:op=1;·
      subst h1;rw[cV rfl]at j;split at j;·injection j with j;subst j;exact Al name C many sort l1 w B wb mb base nf b o cap sv ev W (ab _ (List.mem_cons_self)).1 hb ⟨J,P,R⟩ T U hr ac
      ·cases j
     ·have e1:(op==1)=false:=by simpa using h1
      by_cases h2:op=2;·
       subst h2;rw[cR rfl]at j;split at j;·exact FR f ih st name C many sort l1 r w B wb mb base nf b o cap sv ev W ab j hb ⟨J,P,R⟩ T U hr ac I
       ·cases j
      ·have e2:(op==2)=false:=by simpa using h2
       by_cases h0:op=0;·
        rw[bU h0]at j;split at j;·rename_i he;injection j with j;subst j;have hm:many=0:=xH he;subst hm;have:=rU f 0 (fun h=>absurd h (by omega)) st op name C sort l1 l1 w B wb mb base nf b o cap sv ev W h1 h2 ⟨by omega,by omega⟩ ab rfl hb ⟨J,P,R⟩ T U hr ac I;rw[wv];simp only[e1,e2];exact this
        ·cases j
       ·rw[cM h0 h1 h2]at j;split at j;·rename_i ht;have hm:=Ch ht;dsimp only at hm j;have:=rU f many (fun _=>ih) _ op name C sort l1 r w B wb mb base nf b o cap sv ev W h1 h2 ⟨by omega,by omega⟩ ab j hb ⟨J,P,R⟩ T U hr ac I;rw[wv];simp only[e1,e2];exact this
        ·cases j
def uM(ns:List Nd):aN:=if 400<ns.length then dG else if cL true ns then iX ns else dG
def CV(ns:List Nd):Int:=if 400<ns.length then 2 else if cL true ns then 0 else 1
theorem od{ns:List Nd}(h:cL true ns=true):ahead (aQ true) 10 [] ns=some []∧ns.length≤40:=by rw[cL]at h;simp only[Bool.and_eq_true,decide_eq_true_eq,beq_iff_eq]at h;refine⟨?_,h.1⟩;cases j:ahead (aQ true) 10 [] ns with|none=>rw[j]at h;simp at h|some r=>rw[j]at h;simp at h;rw[h.2.1]
theorem ri{w w':World}(C:Int)(j:Below w.heap.size w w'):lI w w' (.returned (.agg #[.slice none 0 0,.slice none 0 0,.int .i64 0,.int .i64 C])) dG C:=⟨⟨_,_,rfl,aV.nil _ _,aO.nil _ _,by simp[an,aG]⟩,j⟩
theorem Kept.below{w w':World}{base B:Nat}{l:List Nat}(h:Kept w w' base l)(I:B≤base)(j:∀b∈l,B≤b):Below B w w':=⟨h.os,h.tape,h.output,h.size,fun k J=>h.block k (by omega) (fun C=>absurd (j k C) (by omega))⟩
theorem Kept.box{w w':World}{base b:Nat}{l:List Nat}{vs:List Value}(h:Kept w w' base l)(C:b<base)(I:b∉l)(j:bA w b vs):bA w' b vs:=⟨fun i v J=>(World.cell?_of_block (a:=⟨b,i,none⟩) (h.block b C I)).trans (j.cell i v J),fun o=>(World.frozen?_of_block (a:=⟨b,o,none⟩) (h.block b C I)).trans (j.fz o),Nat.lt_of_lt_of_le j.lt h.size⟩
theorem JK(w:World):gW ((w.alloc (.map #[] 0)).alloc (.cells #[.slice none 0 0,.slice none 0 0,.int .i64 0,.map (some w.heap.size)] 56)) (w.heap.size+1) w.heap.size (w.heap.size+2) (.slice none 0 0) (.slice none 0 0) 0 ⟨[],[],fun _=>0⟩:=by
 refine⟨?_,aV.nil _ _,aO.nil _ _,?_,by simp[an,aG],⟨by omega,by omega,by omega⟩,by simp⟩;·have:=bA.new (w.alloc (.map #[] 0)) [.slice none 0 0,.slice none 0 0,.int .i64 0,.map (some w.heap.size)] 56;simpa using this
 ·exact(I5 w).keep (ak (ai _ _)) (by simp)
theorem DS{j w3:World}{C I:Obj}(h:Kept ((j.alloc C).alloc I) w3 (j.heap.size+2) [j.heap.size+1,j.heap.size]):Kept j w3 j.heap.size []:=have J:Below j.heap.size j ((j.alloc C).alloc I):=(ai _ _).trans ((ai _ _).mono (by simp));⟨h.os,h.tape,h.output,by have:=h.size;simp at this;omega,fun b l _=>(h.block b (by omega) (by simp;omega)).trans (J.block b l)⟩
theorem Je{w l w3 R:World}{ps pe:Option Addr}{cs T nf:Nat}{Z:Wv}{es:List ar}{i:Int}(I:Below w.heap.size w l)(ad:w.heap.size<l.heap.size)(U:gW w3 (l.heap.size+1) l.heap.size (l.heap.size+2) (.slice ps Z.sts.length cs) (.slice pe Z.eds.length T) nf Z)(J:Kept l w3 l.heap.size [])(ac:aw (w3.setCell ⟨l.heap.size+1,2,none⟩ (.int .i64 i)) R (an (.slice pe Z.eds.length T)))(P:aO R (l.heap.size+2) (.slice pe Z.eds.length T) es)(y0 y1 y2 y3:Value):lI w ((((R.setCell ⟨w.heap.size,0,none⟩ y0).setCell ⟨w.heap.size,1,none⟩ y1).setCell ⟨w.heap.size,2,none⟩ y2).setCell ⟨w.heap.size,3,none⟩ y3) (.returned (.agg #[.slice ps Z.sts.length cs,.slice pe Z.eds.length T,.int .i64 i,.int .i64 0])) ⟨Z.sts,es,i⟩ 0:=by
 have hS:=aA w3 (l.heap.size+1) 2 (.int .i64 i);have hA:=hS.trans ac;have lo:=U.ed.fresh.lo;have h4:=II R w.heap.size y0 y1 y2 y3;have ab:Below w.heap.size w R:=by
  refine(I.trans (J.below I.size (by simp))).trans (hA.below (Nat.le_trans I.size J.size) (fun b j=>?_));rw[List.mem_append]at j;rcases j with j|j;·simp at j;omega
  ·have:=lo b j;omega
 refine⟨⟨_,_,rfl,?_,?_,U.q8⟩,tz ab y0 y1 y2 y3⟩;·
  have hs:=U.st;refine bo (base:=l.heap.size+2) ((hs.keep hA (fun b j C=>?_)).keep h4 (fun b j C=>by have:=hs.fresh.lo b j;simp at C;omega)) (by omega);rw[List.mem_append]at C;rcases C with C|C;·have:=hs.fresh.lo b j;simp at C;omega
  ·exact U.q8 b j C
 ·exact bo (P.keep h4 (fun b j C=>by have:=P.fresh.lo b j;simp at C;omega)) (by omega)
theorem xk(ns:List Nd)(v:Value)(w:World)(az:∀n∈ns,n.fit)(hv:bR w w.heap.size v ns):Calls Tryz.prog 5 #[v] w fun e w'=>lI w w' e (uM ns) (CV ns):=by
 have HV:=aa hv;have av:=aa az;have a9:=hv.jc;obtain⟨ao,cap,rfl,hc,hm,hr⟩:=hv;have HO:Hid (bA (w.alloc GO) w.heap.size [.slice none 0 0,.slice none 0 0,.int .i64 0,.int .i64 0]):=aa (bA.new w [.slice none 0 0,.slice none 0 0,.int .i64 0,.int .i64 0] 30);clear hr az;by_cases h4:400<ns.length;·have HT:Hid (uM ns=dG∧CV ns=2):=aa ⟨if_pos h4,if_pos h4⟩;go_enter Tryz.func5,Tryz.ntmps5;go_wp2_with fail;refine bodyPost_ret (v:=.agg #[.slice none 0 0,.slice none 0 0,.int .i64 0,.int .i64 2]) (by simp[results,Tryz.results5,go_sem]) rfl ?_;rw[HT.out.1,HT.out.2];exact ri 2 ((Below.refl _ _).alloc (Nat.le_refl _) _)
 ·obtain⟨q,hq⟩:∃q,cL true ns=q:=⟨_,rfl⟩;have HQ:=aa hq;have ay:Hid (∀W,Below w.heap.size w W→Calls Tryz.prog 28 #[.slice ao ns.length cap] W fun e w'=>e=.returned (.bool q)∧Below W.heap.size W w'):=aa (fun W U=>by have:=zr ns (.slice ao ns.length cap) W av.out ((HV.out.carry U).up U.size);rw[hq]at this;exact this);have HT:Hid (uM ns=(if q then iX ns else dG)∧CV ns=(if q then 0 else 1)):=aa (by unfold uM CV;rw[if_neg h4,if_neg h4,hq];exact⟨rfl,rfl⟩);clear hq;cases q;·go_enter Tryz.func5,Tryz.ntmps5;go_wp2_with(go_at_call 28;refine(ay.out _ (ai w _)).mono ?_;rintro e T⟨rfl,j⟩;have ab:Hid (Below w.heap.size w T):=aa ((ai w _).trans (j.mono (by simp)));have C:=aa (HO.out.keep (ak j) (by simp));have b0:=C.out.cell 0 _ rfl;have b1:=C.out.cell 1 _ rfl;have b2:=C.out.cell 2 _ rfl;have b3:=C.out.cell 3 _ rfl;have bz:=C.out.fz;clear j);refine bodyPost_ret (v:=.agg #[.slice none 0 0,.slice none 0 0,.int .i64 0,.int .i64 1]) (by simp[results,Tryz.results5,go_sem,b0,b1,b2,b3]) rfl ?_;rw[HT.out.1,HT.out.2];exact ri 1 (tz ab.out _ _ _ _)
  ·obtain⟨R,a8⟩:=od HQ.out;have a5:=aa R;have ag:=aa (fun es hp hu=>Eb (es:=es) R hp hu);have af:Hid (∀I:World,Below w.heap.size w I→Calls Tryz.prog 29 #[.pointer (some ⟨I.heap.size+1,0,none⟩),.slice ao ns.length cap] ((I.alloc (.map #[] 0)).alloc (.cells #[.slice none 0 0,.slice none 0 0,.int .i64 0,.map (some I.heap.size)] 56)) fun e w'=>ql ((I.alloc (.map #[] 0)).alloc (.cells #[.slice none 0 0,.slice none 0 0,.int .i64 0,.map (some I.heap.size)] 56)) w' w.heap.size (I.heap.size+1) I.heap.size (I.heap.size+2) 0 e ns [] (FG ns).1 (FG ns).2.2):=aa (fun I U=>Bt 10 [] ns [] _ _ w.heap.size (I.heap.size+1) I.heap.size (I.heap.size+2) 0 _ _ _ R (fun n hn=>av.out n hn) ((HV.out.carry U).carry (((ai _ _).trans ((ai _ _).mono (by simp))).mono U.size)) (by have:=U.size;omega) (by have:=U.size;omega) U.size (JK I) ⟨by simp;omega,by simp;omega,by omega⟩);obtain⟨i,hi⟩:∃i,(FG ns).1=i:=⟨_,rfl⟩;obtain⟨Z,hZ⟩:∃Z,(FG ns).2.2=Z:=⟨_,rfl⟩;have a4:Hid (Z.eds.length≤1000):=aa (by have:=(vB 10 [] ns [] ⟨[],[],fun _=>0⟩ R).2.eds;rw[←hZ];unfold FG;simp at this;omega);rw[hi,hZ]at af ag;have ba:∀W:World,(Instr.makeMap 54 none).run Tryz.prog W=.ok (.map (some W.heap.size)) (W.alloc (.map #[] 0)):=fun W=>rfl;clear R hi hZ;go_enter Tryz.func5,Tryz.ntmps5;go_wp2_with(first|(go_at_call 28;refine(ay.out _ (ai w _)).mono ?_;rintro e T⟨rfl,j⟩;have ab:Hid (Below w.heap.size w T):=aa ((ai w _).trans (j.mono (by simp)));have C:=aa (HO.out.keep (ak j) (by simp));have ac:Hid (w.heap.size<T.heap.size):=aa (by have:=j.size;simp at this;omega);clear j)|(go_at_call 29;refine(af.out T ab.out).mono ?_;rintro e w3⟨v3,sv,ev,bb,rfl,-,l,-,a0⟩;have J:=aa l;have ax:Hid (Kept T w3 (T.heap.size) []):=aa (DS a0);obtain⟨ps,cs,rfl⟩:=aq l.st;obtain⟨pe,ce,rfl⟩:=aq l.ed;have x0:=l.box.cell 0 _ rfl;have x1:=l.box.cell 1 _ rfl;have x2:=l.box.cell 2 _ rfl;have xz:=l.box.fz;clear l a0)|(go_at_call 30;refine(zI Z.eds (T.heap.size+2) (.slice pe Z.eds.length ce) (w3.setCell ⟨T.heap.size+1,2,none⟩ (.int .i64 i)) (J.out.ed.keep (aA w3 (T.heap.size+1) 2 (.int .i64 i)) (fun b U hm=>by have:=J.out.ed.fresh.lo b U;simp at hm;omega)) a4.out).mono ?_;rintro e w4⟨rfl,es,hp,hu,a1,ad⟩;have HP:=aa hp;have HU:=aa hu;have a3:=aa a1;have a2:=aa ad;have ah:=aa (((J.out.box.set 2 (by simp) (.int .i64 i))).keep ad (fun hm=>by have:=J.out.ed.fresh.lo _ hm;omega));have y0:=ah.out.cell 0 _ rfl;have y1:=ah.out.cell 1 _ rfl;have y2:=ah.out.cell 2 _ rfl;have P:=aa (((ax.out.box ac.out (by simp) C.out).keep (aA w3 (T.heap.size+1) 2 (.int .i64 i)) (by have:=ac.out;simp;omega)).keep ad (fun hm=>by have:=J.out.ed.fresh.lo _ hm;have:=ac.out;omega));have b0:=P.out.cell 0 _ rfl;have b1:=P.out.cell 1 _ rfl;have b2:=P.out.cell 2 _ rfl;have b3:=P.out.cell 3 _ rfl;have bz:=P.out.fz;clear hp hu a1 ad));refine bodyPost_ret (v:=.agg #[.slice ps Z.sts.length cs,.slice pe Z.eds.length ce,.int .i64 i,.int .i64 0]) (by simp[results,Tryz.results5,go_sem,b0,b1,b2,b3]) rfl ?_;rw[HT.out.1,HT.out.2,if_pos trivial,if_pos trivial,(ag.out es HP.out HU.out).2];exact Je ab.out ac.out J.out ax.out a2.out a3.out _ _ _ _
end
structure Bj(S:List aB)(e:ar):Prop where
 s0:0≤e.src
 s1:e.src<(S.length:Int)
 d0:0≤e.dst
 d1:e.dst<(S.length:Int)
 nm:du e.label=true
 so:0≤e.sort∧e.sort≤2
 kd:∃x,S[e.src.toNat]?=some x∧x.kind≠0
theorem Bj.more{S:List aB}{e:ar}(h:Bj S e)(T:List aB):Bj (S++T) e:=by obtain⟨x,C,l⟩:=h.kd;have j:(S++T).length=S.length+T.length:=List.length_append;have I:=h.s1;have J:=h.d1;refine⟨h.s0,by rw[j];omega,h.d0,by rw[j];omega,h.nm,h.so,x,?_,l⟩;rw[List.getElem?_append_left (by have:=h.s0;omega)];exact C
structure Iz(st l:List Nd)(fs:ByteArray→Int)(n:Nat):Prop where
 said:∀t,dH false st t=true→0≤fs t∧fs t<(n:Int)
 open_:ft l=false→∀t,bG st t=true→0≤fs t∧fs t≤(n:Int)
structure Gd(st:List Nd)(fs:ByteArray→Int)(sts:List aB)(eds:List ar)(o:Wv):Prop where
 sts:∃sN,o.sts=sts++sN∧∀x∈sN,iR x=true
 eds:∃eN,o.eds=eds++eN∧∀e∈eN,Bj o.sts e
 fs:∀t,bG st t=true→o.fs t=fs t
theorem Gd.trans{st:List Nd}{fs:ByteArray→Int}{sts:List aB}{eds:List ar}{o J:Wv}(h:Gd st fs sts eds o)(C:Gd st o.fs o.sts o.eds J):Gd st fs sts eds J:=by
 obtain⟨s1,e1,U⟩:=h.sts;obtain⟨P,e2,k2⟩:=C.sts;obtain⟨d1,R,g1⟩:=h.eds;obtain⟨d2,T,g2⟩:=C.eds;refine⟨⟨s1++P,by rw[e2,e1,List.append_assoc],fun x l=>?_⟩,⟨d1++d2,by rw[T,R,List.append_assoc],fun e j=>?_⟩,fun t I=>(C.fs t I).trans (h.fs t I)⟩;·
  rcases List.mem_append.1 l with l|l;·exact U x l
  ·exact k2 x l
 ·rcases List.mem_append.1 j with j|j;·rw[e2];exact(g1 e j).more P
  ·exact g2 e j
theorem Gd.more{st:List Nd}{fs:ByteArray→Int}{sts:List aB}{eds:List ar}{o:Wv}(h:Gd st fs sts eds o):sts.length≤o.sts.length:=by obtain⟨s,e,-⟩:=h.sts;rw[e,List.length_append];omega
def Lv(f:Nat):Prop:=∀(st l r:List Nd)(fs:ByteArray→Int)(sts:List aB)(eds:List ar),ahead (aQ true) f st l=some r→js st→Iz st l fs sts.length→Gd st fs sts eds (wv f l ⟨sts,eds,fs⟩).2.2∧0≤(wv f l ⟨sts,eds,fs⟩).1∧(wv f l ⟨sts,eds,fs⟩).1<((wv f l ⟨sts,eds,fs⟩).2.2.sts.length:Int)
theorem F0{c:Nd}(h:cI c=true):du c.name=true∧0≤c.sort∧c.sort≤2:=by
 simp only[cI,Bool.and_eq_true]at h;obtain⟨⟨-,j⟩,l⟩:=h;refine⟨?_,?_⟩;·simp only[bJ,Bool.and_eq_true]at j;exact j.1
 ·simpa[jF]using l
theorem AL{f:Nat}(hf:Lv f)(st:List Nd)(C:js st)(s:Nat):∀(m:Nat)(ls:List ByteArray)(l r:List Nd)(fs:ByteArray→Int)(sts:List aB)(eds:List ar),aS (ahead (aQ true) f st) m ls l=some r→s<sts.length→(∃x,sts[s]?=some x∧x.kind≠0)→(∀t,bG st t=true→0≤fs t∧fs t<(sts.length:Int))→Gd st fs sts eds (cZ (wv f) (s:Int) m l ⟨sts,eds,fs⟩).2
 |0,ls,l,r,fs,sts,eds,h,_,_,_=>⟨⟨[],by simp[cZ],by simp⟩,⟨[],by simp[cZ],by simp⟩,fun _ _=>rfl⟩|m+1,ls,[],r,fs,sts,eds,h,_,_,_=>by cases h|m+1,ls,c::l,r,fs,sts,eds,h,hs,hk,j=>by
  rw[aS]at h;split at h;·
   rename_i R;simp only[Bool.and_eq_true,Bool.not_eq_true']at R;obtain⟨hn,ac⟩:=F0 R.1;split at h;·cases h
   ·rename_i r1 U;have ab:Iz st l fs sts.length:=⟨fun t I=>j t (jZ st C t I),fun _ t I=>⟨(j t I).1,by have:=(j t I).2;omega⟩⟩;obtain⟨g1,i0,i1⟩:=hf st l r1 fs sts eds U C ab;have e1:=(vB f st l r1 ⟨sts,eds,fs⟩ U).1;have hz:=g1.more;rw[cZ,e1];obtain⟨o,ho⟩:∃o,(wv f l ⟨sts,eds,fs⟩).2.2=o:=⟨_,rfl⟩;obtain⟨i,hi⟩:∃i,(wv f l ⟨sts,eds,fs⟩).1=i:=⟨_,rfl⟩;rw[ho]at g1 i1 hz⊢;rw[hi]at i0 i1⊢;obtain⟨sN,es,ks⟩:=g1.sts;have T:∃x,o.sts[s]?=some x∧x.kind≠0:=by obtain⟨x,hx,J⟩:=hk;exact⟨x,by rw[es,List.getElem?_append_left hs];exact hx,J⟩
    have g2:=AL hf st C s m (ls++[c.name]) r1 r o.fs o.sts (o.eds++[⟨(s:Int),c.name,c.sort,i⟩]) h (by omega) T (fun t I=>by rw[g1.fs t I];have:=j t I;omega);refine g1.trans ⟨g2.sts,?_,g2.fs⟩;obtain⟨eN,f2,k2⟩:=g2.eds;refine⟨[⟨(s:Int),c.name,c.sort,i⟩]++eN,by rw[f2,List.append_assoc],fun e P=>?_⟩;rcases List.mem_append.1 P with P|P;·obtain⟨s2,e2,-⟩:=g2.sts;simp at P;subst P;rw[e2];refine Bj.more ⟨by show(0:Int)≤(s:Int);omega,by show(s:Int)<_;omega,i0,i1,hn,ac,?_⟩ s2;obtain⟨x,hx,J⟩:=T;exact⟨x,by simpa using hx,J⟩
    ·exact k2 e P
  ·cases h
theorem Hq{n:Nd}(h:aQ true n=true):(n.op=5∨n.op=6)∧du n.peer=true:=by simp only[aQ,Bool.and_eq_true,if_true]at h;obtain⟨⟨⟨j,-⟩,-⟩,-,l⟩:=h;refine⟨by simpa using l,?_⟩;simp only[bJ,Bool.and_eq_true]at j;exact j.1
theorem AD{st:List Nd}{fs:ByteArray→Int}{sts:List aB}{eds:List ar}:Gd st fs sts eds ⟨sts,eds,fs⟩:=⟨⟨[],by simp,by simp⟩,⟨[],by simp,by simp⟩,fun _ _=>rfl⟩
theorem sF{st:List Nd}{fs:ByteArray→Int}{sts:List aB}{eds:List ar}{x:aB}(h:iR x=true):Gd st fs sts eds ⟨sts++[x],eds,fs⟩:=⟨⟨[x],rfl,by simpa using h⟩,⟨[],by simp,by simp⟩,fun _ _=>rfl⟩
theorem vv{n:Nd}(h:gO n=true):iR ⟨dW n.op,n.peer⟩=true∧n.many.toNat=0:=by simp only[gO,Bool.and_eq_true,beq_iff_eq]at h;obtain⟨⟨⟨⟨j,-⟩,l⟩,C⟩,-⟩:=h;refine⟨?_,by rw[C];rfl⟩;rw[j];show(if(dW 0==0)=true then n.peer.toList==[]else _)=true;rw[if_pos (by decide),l];rfl
theorem Ln:∀f:Nat,Lv f:=by
 intro f;induction f with
  |zero=>
   intro st l r fs sts eds h U J;cases l with
    |nil=>cases h|cons n l=>
     rw[wv];by_cases R:(n.op==1)=true;·
      rw[if_pos R];rw[cV (by simpa using R)]at h;split at h;·rename_i I;simp only[Bool.and_eq_true]at I;have:=J.said _ I.2;exact⟨AD,this.1,this.2⟩
      ·cases h
     ·rw[if_neg R];by_cases h0:n.op=0;·
       rw[bU h0]at h;split at h;·rename_i I;exact⟨sF (vv I).1,by show(0:Int)≤(sts.length:Int);omega,by show(sts.length:Int)<((sts++[_]).length:Int);rw[List.length_append,List.length_singleton];omega⟩
       ·cases h
      ·rw[ct h0 (by simpa using R)]at h;cases h
  |succ f ih=>
   intro st l r fs sts eds h U J;cases l with
    |nil=>cases h|cons n l=>
     rw[wv];by_cases R:(n.op==1)=true;·
      rw[if_pos R];rw[cV (by simpa using R)]at h;split at h;·rename_i I;simp only[Bool.and_eq_true]at I;have:=J.said _ I.2;exact⟨AD,this.1,this.2⟩
      ·cases h
     ·rw[if_neg R];by_cases T:(n.op==2)=true;·
       rw[if_pos T];have ab:n.op=2:=by simpa using T
       rw[cR ab]at h;split at h;·
        rename_i I;simp only[Bool.and_eq_true,Bool.not_eq_true']at I;have ad:=I.2;have P:js (n::st):=⟨.inr ⟨ab,by rw[←fP];exact ad⟩,U⟩;have ac:ft (n::l)=ft l:=by rw[ft,if_neg (by rw[ab];decide),if_pos T]
        have af:Iz (n::st) l (fun x=>if x=n.name then(sts.length:Int)else fs x) sts.length:=by
         refine⟨fun t j=>?_,fun hc t j=>?_⟩;·
          rw[dH,if_pos T]at j;split at j;·cases j
          ·have hw:=jZ st U t j;have C:t≠n.name:=fun e=>by rw[e,ad]at hw;cases hw
           show 0≤(if t=n.name then(sts.length:Int)else fs t)∧(if t=n.name then(sts.length:Int)else fs t)<_;rw[if_neg C];exact J.said t j
         ·show 0≤(if t=n.name then(sts.length:Int)else fs t)∧(if t=n.name then(sts.length:Int)else fs t)≤_;by_cases C:t=n.name;·rw[if_pos C];omega
          ·rw[if_neg C];have hw:bG st t=true:=by
            rw[bG,List.any_cons,Bool.or_eq_true]at j;rcases j with j|j;·simp only[Bool.and_eq_true]at j;exact absurd (fh.1 j.2).symm C
            ·exact j
           exact J.open_ (by rw[ac];exact hc) t hw
        obtain⟨g,i0,i1⟩:=ih (n::st) l r _ sts eds h P af;refine⟨⟨g.sts,g.eds,fun t j=>?_⟩,i0,i1⟩;have C:t≠n.name:=fun e=>by rw[e,ad]at j;cases j
        have:=g.fs t (by rw[bG,List.any_cons];rw[bG]at j;rw[j];simp);rw[this];show(if t=n.name then _ else fs t)=_;rw[if_neg C]
       ·cases h
      ·rw[if_neg T];have ah:∀t,bG (n::st) t=bG st t:=fun t=>by rw[bG,List.any_cons,Bool.eq_false_iff.2 T];simp[bG]
       have ac:ft (n::l)=false:=by rw[ft,if_neg R,if_neg T]
       by_cases h0:n.op=0;·
        rw[bU h0]at h;split at h;·rename_i I;rw[(vv I).2,cZ];exact⟨sF (vv I).1,by show(0:Int)≤(sts.length:Int);omega,by show(sts.length:Int)<((sts++[_]).length:Int);rw[List.length_append,List.length_singleton];omega⟩
        ·cases h
       ·rw[cM h0 (by simpa using R) (by simpa using T)]at h;split at h;·
         rename_i hT;obtain⟨ag,av⟩:=Hq hT;have P:js (n::st):=⟨.inl (by simpa using T),U⟩;have ax:(sts++[(⟨dW n.op,n.peer⟩:aB)]).length=sts.length+1:=by simp
         have hm:iR ⟨dW n.op,n.peer⟩=true:=by rcases ag with e|e<;>rw[e]<;>simp[iR,dW,av,fj]
         have ao:(dW n.op)≠0:=by rcases ag with e|e<;>rw[e]<;>decide
         have g:=AL ih (n::st) P sts.length n.many.toNat [] l r fs (sts++[⟨dW n.op,n.peer⟩]) eds h (by omega) ⟨⟨dW n.op,n.peer⟩,by simp,ao⟩ (fun t j=>by have:=J.open_ ac t (by rw[←ah];exact j);omega);have g':=Gd.trans (sF (st:=st) (fs:=fs) (sts:=sts) (eds:=eds) hm) ⟨g.sts,g.eds,fun t j=>g.fs t (by rw[ah];exact j)⟩;have:=g.more;exact⟨g',by show(0:Int)≤(sts.length:Int);omega,by show(sts.length:Int)<_;simp only at this⊢;omega⟩
        ·cases h
theorem CQ{l:List ar}(j:Up l)(C:l.Pairwise fun a b=>¬(a.src=b.src∧a.label=b.label)):l.Pairwise fun a b=>a7 a b=true:=by refine(j.and C).imp ?_;rintro a b⟨h,J⟩;cases I:a7 a b with|true=>rfl|false=>exact absurd (sw I h) J
theorem zk{ns:List Nd}(h:cL true ns=true):aW (iX ns)=true:=by
 obtain⟨ha,ba⟩:=od h;have ad:Inv [] ns (fun _=>0) [] []:=⟨rfl,rfl,(fun t U=>by cases U),(fun _ t U=>by cases U)⟩;obtain⟨e1,new,a8,a5,I,ho,hq,ay,_,_⟩:=Iv 10 [] ns [] (fun _=>0) [] [] [] [] [] ha trivial ad;obtain⟨C,a9,l,i,ax,_,hn⟩:=Ep 10 [] ns [] (fun _=>0) [] [] ha;obtain⟨g,i0,i1⟩:=Ln 10 [] ns [] (fun _=>0) [] [] ha trivial ⟨fun t U=>(by cases U),fun _ t U=>(by cases U)⟩;obtain⟨-,gl⟩:=vB 10 [] ns [] ⟨[],[],fun _=>0⟩ ha;have ab:=gl.sts;have R:=gl.eds;rw[ax]at ho g i0 i1 ab R e1;simp only[List.nil_append,Prod.mk.injEq,Wv.mk.injEq,true_and]at ho;obtain⟨rfl,rfl,rfl⟩:=ho;simp only[List.length_nil,Nat.add_zero,Nat.zero_add]at ab R i0 i1 e1;obtain⟨sN,es,ks⟩:=g.sts;obtain⟨eN,ee,ke⟩:=g.eds;simp only[List.nil_append]at es ee;rw[←es]at ks;rw[←ee]at ke;have az:Up I:=by
  have:=Iu 10 [] [] ns ([],[]) (List.Pairwise.nil);have e:(sv 10 [] [] ns ([],[])).2.2=I:=by rw[hq]
  rwa[e]at this
 have J:I.Perm C:=by simpa using ay
 have ag:=CQ az (hn.two.perm J.symm (fun h hk=>h ⟨hk.1.symm,hk.2.symm⟩));have hM:iX ns=⟨l,I,i⟩:=by unfold iX;rw[show It ns=([],l,I)from hq,e1];rfl
 have a0:I.length=C.length:=J.length_eq;have av:([]++C:List ar).length=C.length:=by simp
 rw[hM];unfold aW;simp only[Bool.and_eq_true];refine⟨?_,List.all_eq_true.2 ks,List.all_eq_true.2 fun j hj=>?_⟩;·unfold iF;simp only[fj,Bool.and_eq_true,decide_eq_true_eq];have ac:=R;rw[av]at ac;refine⟨⟨by omega,by omega⟩,by omega,i0,by omega⟩
 ·have T:j<I.length:=by simpa using hj
  have ah:∀e∈I,Bj l e:=fun e he=>ke e (J.mem_iff.1 he);have af:∀e∈I,pV ⟨l,I,i⟩ e=true:=fun e he=>by
   have P:=ah e he;obtain⟨x,hx,hk⟩:=P.kd;have a1:=P.s0;have a2:=P.s1;have a3:=P.d0;have a4:=P.d1;have ao:eF ⟨l,I,i⟩ e.src=x.kind:=by unfold eF;rw[hx]
   unfold pV;rw[P.nm,ao];simp only[fj,Bool.and_eq_true,decide_eq_true_eq,Bool.not_eq_true',beq_eq_false_iff_ne];exact⟨⟨a1,by omega⟩,⟨a3,by omega⟩,trivial,⟨P.so.1,P.so.2⟩,hk⟩
  unfold dF;rw[List.getElem?_eq_getElem T];simp only[Bool.and_eq_true];refine⟨af _ (List.getElem_mem T),?_⟩;cases j with|zero=>rfl|succ j=>simp only[Nat.add_sub_cancel];rw[List.getElem?_eq_getElem (by omega)];exact(List.pairwise_iff_getElem.1 ag) j (j+1) (by omega) T (by omega)
theorem Hs{u s:ByteArray}{pre post:List UInt8}(h:u.size≤8000)(j:bL s=pre++(bL (eO u)++post))(I:s.size≤8000):dd s (pre.length:Int)=(u,(pre.length:Int)+((bL (eO u)).length:Int),0):=by
 unfold bL at j⊢;rw[u5 h]at j⊢;rw[List.append_assoc]at j;have l:=xO (n:=(u.size:Int)) (by omega) (by omega) j I;have C:s.size=pre.length+(kb (dC (u.size:Int))).length+u.size+post.length:=by rw[Lib.size_eq,j,List.length_append,List.length_append,List.length_append,←Lib.size_eq];omega
 rw[dd,l];simp only;rw[if_neg (by simp),if_neg (by omega),if_neg (by omega)];refine Prod.ext ?_ (Prod.ext ?_ rfl);·apply Am;rw[Lib.extract_data,j];rw[show((pre.length:Int)+((kb (dC (u.size:Int))).length:Int)).toNat=pre.length+(kb (dC (u.size:Int))).length from by omega,Int.toNat_natCast,←List.append_assoc,List.drop_left' (by simp),Nat.add_sub_cancel_left,List.take_left' (by rw[←Lib.size_eq])]
 ·simp only[List.length_append];rw[←Lib.size_eq];omega
theorem mM{t:ByteArray}{n:Int}{pre post:List UInt8}(C:t.size≤8000)(j:-9223372036854775808≤n∧n≤9223372036854775807)(h:bL t=pre++(bL (ca n)++post)):gN t (pre.length:Int)=some (n,((pre++bL (ca n)).length:Int)):=by have l:aY t (pre.length:Int)=(n,(pre.length:Int)+((bL (ca n)).length:Int),0):=xO j.1 j.2 h C;unfold gN;rw[l];simp
theorem AA{t u:ByteArray}{pre post:List UInt8}(j:t.size≤8000)(hu:u.size≤8000)(h:bL t=pre++(bL (eO u)++post)):gT t (pre.length:Int)=some (u,((pre++bL (eO u)).length:Int)):=by unfold gT;rw[Hs hu h j];simp
theorem pN{α:Type}{t:ByteArray}{f:Int→Option (α×Int)}{pt:α→List UInt8}{l:List α}(j:∀x∈l,∀pre post,bL t=pre++(pt x++post)→f (pre.length:Int)=some (x,((pre++pt x).length:Int)))(pre post:List UInt8)(h:bL t=pre++(l.flatMap pt++post)):∀k,k≤l.length→j8 f (pre.length:Int) k=some (l.take k,((pre++(l.take k).flatMap pt).length:Int))
 |0,_=>by simp[j8]|k+1,I=>by
  have ih:=pN j pre post h k (by omega);have C:=j l[k] (List.getElem_mem (by omega)) (pre++(l.take k).flatMap pt) ((l.drop (k+1)).flatMap pt++post) (by
   have e:l.flatMap pt=(l.take k).flatMap pt++(pt l[k]++(l.drop (k+1)).flatMap pt):=by conv=>lhs;rw[←List.take_append_drop k l,List.flatMap_append,List.drop_eq_getElem_cons (show k<l.length by omega),List.flatMap_cons]
   rw[h,e];simp only[List.append_assoc]);rw[j8,ih];simp only[Option.bind_some];rw[C];simp only[Option.bind_some];rw[List.take_succ_eq_append_getElem (show k<l.length by omega),List.flatMap_append];simp
theorem BQ{t:ByteArray}{x:aB}(l:t.size≤8000)(I:-9223372036854775808≤x.kind∧x.kind≤9223372036854775807)(J:x.peer.size≤8000)(pre post:List UInt8)(h:bL t=pre++((eh x).flatMap bL++post)):oU t (pre.length:Int)=some (x,((pre++(eh x).flatMap bL).length:Int)):=by
 have j:bL t=pre++(bL (ca x.kind)++(bL (eO x.peer)++post)):=by rw[h];simp[eh]
 have C:bL t=(pre++bL (ca x.kind))++(bL (eO x.peer)++post):=by rw[j];simp
 unfold oU;rw[mM l I j];simp only[Option.bind_some];rw[AA l J C];simp[eh]
theorem BO{t:ByteArray}{x:ar}(j:t.size≤8000)(C:-9223372036854775808≤x.src∧x.src≤9223372036854775807)(I:x.label.size≤8000)(J:-9223372036854775808≤x.sort∧x.sort≤9223372036854775807)(P:-9223372036854775808≤x.dst∧x.dst≤9223372036854775807)(pre post:List UInt8)(h:bL t=pre++((dE x).flatMap bL++post)):pL t (pre.length:Int)=some (x,((pre++(dE x).flatMap bL).length:Int)):=by
 have l:bL t=pre++(bL (ca x.src)++(bL (eO x.label)++(bL (ca x.sort)++(bL (ca x.dst)++post)))):=by rw[h];simp[dE]
 have R:bL t=(pre++bL (ca x.src))++(bL (eO x.label)++(bL (ca x.sort)++(bL (ca x.dst)++post))):=by rw[l];simp
 have T:bL t=(pre++bL (ca x.src)++bL (eO x.label))++(bL (ca x.sort)++(bL (ca x.dst)++post)):=by rw[l];simp
 have U:bL t=(pre++bL (ca x.src)++bL (eO x.label)++bL (ca x.sort))++(bL (ca x.dst)++post):=by rw[l];simp
 unfold pL;rw[mM j C l];simp only[Option.bind_some];rw[AA j I R];simp only[Option.bind_some];rw[mM j J T];simp only[Option.bind_some];rw[mM j P U];simp[dE]
theorem uC{t:ByteArray}{n:Nat}{most:Int}{pre post:List UInt8}(l:t.size≤8000)(j:(n:Int)≤most)(C:most≤1000)(h:bL t=pre++(bL (ca (n:Int))++post)):nK t (pre.length:Int) most=some (n,((pre++bL (ca (n:Int))).length:Int)):=by unfold nK;rw[mM l ⟨by omega,by omega⟩ h];simp only[Option.bind_some];rw[if_pos ⟨by omega,j⟩];simp
theorem zj(m:aN):bL (cW m)=bL (ca (m.aj.length:Int))++((m.aj.flatMap fun x=>(eh x).flatMap bL)++(bL (ca (m.al.length:Int))++((m.al.flatMap fun x=>(dE x).flatMap bL)++(bL (ca m.start)++[])))):=by unfold cW;rw[vk];simp[dw,cC,cD,List.flatMap_append,List.flatMap_cons,List.flatMap_assoc]
theorem pU{m:aN}(h:aW m=true)(I:m.al.length≤40):(cW m).size≤8000:=by
 have j:=eQ h;have l:=lC (jW j);unfold cW;rw[nS];have C:(dw m).length=3+m.aj.length*2+m.al.length*4:=by rw[dw,List.length_append,lp _ _ (Nat.le_refl _),List.length_singleton];omega
 have:=j.2.2.1;rw[C]at l;omega
theorem y8{m:aN}(h:aW m=true)(he:m.al.length≤40):fR (cW m)=some (m,((cW m).size:Int)):=by
 have hz:=pU h he;have U:=eQ h;have J:=zj m;obtain⟨A,hA⟩:∃x,bL (ca (m.aj.length:Int))=x:=⟨_,rfl⟩;obtain⟨C,hB⟩:∃x,(m.aj.flatMap fun x=>(eh x).flatMap bL)=x:=⟨_,rfl⟩;obtain⟨I,hC⟩:∃x,bL (ca (m.al.length:Int))=x:=⟨_,rfl⟩;obtain⟨P,hD⟩:∃x,(m.al.flatMap fun x=>(dE x).flatMap bL)=x:=⟨_,rfl⟩;obtain⟨j,hE⟩:∃x,bL (ca m.start)=x:=⟨_,rfl⟩;have ad:=yC h;have e1:=uC (n:=m.aj.length) (most:=40) (pre:=[]) hz (by have:=U.2.2.1;omega) (by omega) (by rw[J];rfl);rw[hA,hB,hC,hD,hE]at J;rw[List.nil_append,hA,List.length_nil]at e1;have e2:=pN (t:=cW m) (f:=oU (cW m)) (pt:=fun x=>(eh x).flatMap bL) (l:=m.aj) (fun x hx pre post hh=>BQ hz (by have:=ru h hx;omega) (Nat.le_trans (U.1 x hx) (by omega)) pre post hh) A _ (by rw[hB];exact J) m.aj.length (Nat.le_refl _);rw[List.take_of_length_le (Nat.le_refl _),hB]at e2;have ab:bL (cW m)=(A++C)++(I++(P++(j++[]))):=by rw[J];simp
 have e3:=uC (n:=m.al.length) (most:=80) (pre:=A++C) hz (by omega) (by omega) (by rw[hC];exact ab);rw[hC]at e3;have ac:bL (cW m)=(A++C++I)++(P++(j++[])):=by rw[J];simp
 have e4:=pN (t:=cW m) (f:=pL (cW m)) (pt:=fun x=>(dE x).flatMap bL) (l:=m.al) (fun x hx pre post hh=>by have hb:=cw h hx;have h4:=U.2.2.1;exact BO hz (by omega) (Nat.le_trans (U.2.1 x hx) (by omega)) (by omega) (by omega) pre post hh) (A++C++I) _ (by rw[hD];exact ac) m.al.length (Nat.le_refl _);rw[List.take_of_length_le (Nat.le_refl _),hD]at e4;have T:bL (cW m)=(A++C++I++P)++(j++[]):=by rw[J];simp
 have e5:=mM (n:=m.start) (pre:=A++C++I++P) hz (by have:=U.2.2.1;omega) (by rw[hE];exact T);rw[hE]at e5;unfold fR;rw[show(0:Int)=((0:Nat):Int)from rfl,e1];simp only[Option.bind_some];rw[e2];simp only[Option.bind_some];rw[e3];simp only[Option.bind_some];rw[e4];simp only[Option.bind_some];rw[e5];simp only[Option.bind_some];have R:((cW m).size:Int)=((A++C++I++P++j).length:Int):=by have:=congrArg List.length T;rw[Lib.size_eq];show((bL (cW m)).length:Int)=_;rw[this];simp
 rw[R]
theorem Ce{m:aN}(h:aW m=true)(l:m.al.length≤40):eK (di m)=m∧fS (di m)=0:=by
 have J:di m=cW m:=by unfold di;rw[if_pos h]
 have R:=pU h l;have P:=y8 h l;have j:rf (cW m) m ((cW m).size:Int)=true:=by unfold rf;rw[h];simp
 obtain⟨C,I⟩:=gw (by omega) P;rw[J,C,I,if_pos j,if_pos j];exact⟨rfl,rfl⟩
theorem Cf{u:ByteArray}(h:fS u=0):di (eK u)=u:=by
 by_cases l:8000<u.size;·rw[(mP l).2]at h;cases h
 ·cases C:fR u with
   |none=>rw[(nV l C).2]at h;cases h|some r=>
    obtain⟨m,a⟩:=r;obtain⟨I,J⟩:=gw l C;rw[J]at h;split at h;·rename_i j;rw[I,if_pos j];exact((vG C).1 j).1
    ·cases h
theorem Bn{m:aN}{s:Int}{a:bl}(h:a∈fY m s):0≤fE m s a:=by
 unfold fY at h;split at h;·rename_i l;unfold fE;rw[if_pos l];rw[Bool.and_eq_true]at l;unfold lV at h;rw[List.mem_map]at h;obtain⟨e,P,rfl⟩:=h;obtain⟨C,I⟩:=List.mem_filter.1 P;unfold iL;cases J:m.al.find? (fun j=>j.src==s&&gG (dD m s e) (dD m s j))with|none=>have:=List.find?_eq_none.1 J e C;rw[I]at this;simp[gG]at this|some j=>exact(cw l.1 (List.mem_of_find?_eq_some J)).2.2.1
 ·cases h
theorem Km{P:Nat→Prop}(h:∃j,P j):∃k,P k∧∀j,P j→k≤j:=by
 obtain⟨n,J⟩:=h;induction n using Nat.strongRecOn with
  |ind n ih=>
   by_cases I:∃j,j<n∧P j;·obtain⟨j,l,R⟩:=I;exact ih j l R
   ·exact⟨n,J,fun j l=>Nat.le_of_not_lt (fun C=>I ⟨j,C,l⟩)⟩
theorem F9(m:aN)(s:Int):∃r,jl m s r:=by
 by_cases h:∃j,gF m m.al j s;·obtain⟨k,I,l⟩:=Km h;exact⟨(k:Int),.inr ⟨k,rfl,I,l⟩⟩
 ·exact⟨-1,.inl ⟨rfl,fun j C=>h ⟨j,C⟩⟩⟩
theorem Ax(m:aN)(s:Int):∃r,j5 m s r:=by
 unfold j5;split;·exact F9 m s
 ·exact⟨-1,rfl⟩
theorem vt{m:aN}(h:aW m=true):m.al.Pairwise fun a b=>a7 a b=true:=by
 have l:∀i(hi:i+1<m.al.length),a7 m.al[i] m.al[i+1]=true:=fun i hi=>by simp only[aW,Bool.and_eq_true]at h;have C:=List.all_eq_true.1 h.2.2 (i+1) (List.mem_range.2 hi);rw[dF,List.getElem?_eq_getElem hi]at C;simp only[Bool.and_eq_true,Nat.add_sub_cancel]at C;rw[List.getElem?_eq_getElem (by omega)]at C;exact C.2
 rw[List.pairwise_iff_getElem];intro i j hi I J;obtain⟨d,rfl⟩:∃d,j=i+1+d:=⟨j-(i+1),by omega⟩;induction d with|zero=>exact l i I|succ d ih=>exact oR (ih (by omega) (by omega)) (l (i+1+d) I)
theorem Dx{m:aN}(h:aW m=true){a b:ar}(ha:a∈m.al)(hb:b∈m.al)(R:a.src=b.src)(P:a.label=b.label):a=b:=by
 have I:=vt h;rw[List.pairwise_iff_getElem]at I;obtain⟨i,hi,rfl⟩:=List.getElem_of_mem ha;obtain⟨j,J,rfl⟩:=List.getElem_of_mem hb;have C:∀x y:ar,x.src=y.src→x.label=y.label→a7 x y=false:=fun x y T U=>by simp[a7,T,U,pC]
 rcases Nat.lt_trichotomy i j with l|l|l;·have:=I i j hi J l;rw[C _ _ R P]at this;cases this
 ·subst l;rfl
 ·have:=I j i J hi l;rw[C _ _ R.symm P.symm]at this;cases this
theorem yW{m:aN}{s n:Int}(h:j5 m s n)(hn:0<n):∃a∈fY m s,j5 m (fE m s a) (n-1):=by
 unfold j5 at h;split at h;·
  rename_i T;have l:=T;rw[Bool.and_eq_true]at l;rcases h with⟨rfl,-⟩|⟨k,rfl,h1,h2⟩;·omega
  ·cases k with
    |zero=>omega|succ j=>
     obtain⟨e,C,P,hj⟩:=h1;have hb:=cw l.1 C;have ac:iL m s (dD m s e)=e.dst:=by
      unfold iL;cases U:m.al.find? (fun J=>J.src==s&&gG (dD m s e) (dD m s J))with
       |none=>have:=List.find?_eq_none.1 U e C;simp[P,gG]at this|some J=>
        have hm:=List.mem_of_find?_eq_some U;have hq:=List.find?_some U;simp only[Bool.and_eq_true,beq_iff_eq]at hq;have I:e.label=J.label:=by have R:=hq.2;simp[gG,dD]at R;first|exact R.1|exact fh.1 (beq_iff_eq.2 R.1)
        rw[Dx l.1 hm C (by rw[hq.1,P]) I.symm]
     refine⟨dD m s e,?_,?_⟩;·unfold fY;rw[if_pos T];exact List.mem_map.2 ⟨e,List.mem_filter.2 ⟨C,by simp[P]⟩,rfl⟩
     ·unfold fE;rw[if_pos T,ac];unfold j5;rw[if_pos (by rw[Bool.and_eq_true];exact⟨l.1,by simp[fj];omega⟩)];exact .inr ⟨j,by omega,hj,fun j' ab=>by have:=h2 (j'+1) ⟨e,C,P,ab⟩;omega⟩
 ·omega
section
attribute [local go_sem ↓] Go.wp_at_zero Go.wp_at_succ
theorem Jd{w:World}{B:Nat}{v:Value}{all:List Nd}(o:Obj)(j:B≤w.heap.size)(l:bR w B v all):da ((w.alloc o).alloc (.cells #[v,.slice none 0 0,.slice none 0 0,.int .i64 0,.slice none 0 0,.slice none 0 0] 129)) (w.heap.size+1) B (w.heap.size+2) v (.slice none 0 0) (.slice none 0 0) 0 (.slice none 0 0) (.slice none 0 0) all [] [] [] []:=by refine⟨?_,l.carry (((ai w o).trans ((ai _ _).mono (by simp))).mono j),aV.nil _ _,aO.nil _ _,ky _ _ _ _,ky _ _ _ _,by constructor<;>simp[an,aG],⟨by omega,by omega⟩,by simp⟩;have:=bA.new (w.alloc o) [v,.slice none 0 0,.slice none 0 0,.int .i64 0,.slice none 0 0,.slice none 0 0] 129;simpa using this
theorem Em{w:World}{xb B base:Nat}{v sv ev:Value}{z:Int}{nv fv:Value}{all:List Nd}{sts:List aB}{eds:List ar}{ns:List ByteArray}{fis:List Int}(h:da w xb B base v sv ev z nv fv all sts eds ns fis)(x:Int):da (w.setCell ⟨xb,3,none⟩ (.int .i64 x)) xb B base v sv ev x nv fv all sts eds ns fis∧eJ w (w.setCell ⟨xb,3,none⟩ (.int .i64 x)) base xb:=by
 have C:=h.low;have j:=aA w xb 3 (.int .i64 x);have I:=j.jB h.sz (xb:=xb) (fun b l=>by simp at l;exact .inl l);have off:∀{u:Value},iB base w u→∀b∈an u,b∉[xb]:=fun hd b l J=>by simp at J;have:=hd.lo b l;omega
 exact⟨⟨h.box.set 3 (by simp) _,I.sl C.1 C.2 h.sl,h.st.keep j (off h.st.fresh),h.ed.keep j (off h.ed.fresh),aJ h.nm j (off (au h.nm)),aJ h.fi j (off (au h.fi)),h.four,C,Nat.le_trans h.sz j.size⟩,I⟩
structure CY(w w':World)(e:Ending)(m:aN):Prop where
 Lx:∃sv ev,e=.returned (.agg #[sv,ev,.int .i64 m.start])∧aV w' w.heap.size sv m.aj∧aO w' w.heap.size ev m.al∧(∀b∈an sv,b∉an ev)
 dN:Below w.heap.size w w'
theorem uL{w w3:World}{l C:Obj}(h:eJ ((w.alloc l).alloc C) w3 (w.heap.size+2) (w.heap.size+1)):Below w.heap.size w w3:=have I:Below w.heap.size w ((w.alloc l).alloc C):=(ai _ _).trans ((ai _ _).mono (by simp));⟨h.os,h.tape,h.output,by have:=h.size;simp at this;omega,fun b j=>(h.block b (by omega) (by omega)).trans (I.block b j)⟩
theorem G8(ns:List Nd)(v:Value)(w:World)(T:ahead (aQ true) 10 [] ns=some [])(a0:ns.length≤40)(hv:bR w w.heap.size v ns):Calls Tryz.prog 48 #[v] w fun e w'=>CY w w' e (iX ns):=by
 have ay:0<ns.length:=by cases ns with|nil=>cases T|cons=>simp
 have ax:¬(∀n∈ns.drop 0,n.op=2):=by rw[List.drop_zero];exact jN _ _ _ _ T
 obtain⟨fst,I⟩:∃x,bq [] [] 0 ns=x:=⟨_,rfl⟩;have av:Hid (iX ns=⟨(It ns).2.1,(It ns).2.2,fst⟩):=aa (by rw[←I];rfl);have af:Hid (∀(W:World)(xb B base:Nat),da W xb B base v (.slice none 0 0) (.slice none 0 0) 0 (.slice none 0 0) (.slice none 0 0) ns [] [] [] []→Calls Tryz.prog 84 #[.pointer (some ⟨xb,0,none⟩),.int .i64 0] W fun e w'=>e=.returned (.int .i64 fst)∧Below W.heap.size W w'):=aa (fun W xb B base hW=>by have:=mf ns [] [] rfl (by simp) (by omega) _ 0 xb W.heap.size W rfl ax hW.DC (Nat.le_refl _);rw[List.drop_zero]at this;rw[show((jy ns 0:Nat):Int)=0 by simp[jy],I]at this;exact this);have ah:Hid (∀(W:World)(xb B base:Nat),da W xb B base v (.slice none 0 0) (.slice none 0 0) fst (.slice none 0 0) (.slice none 0 0) ns [] [] [] []→Calls Tryz.prog 85 #[.pointer (some ⟨xb,0,none⟩),.int .i64 0] W fun e w'=>Made W w' xb B base v fst (db (.slice none 0 0) (.slice none 0 0) (.slice none 0 0) (.slice none 0 0)) ns [] [] e (It ns)):=aa (fun W xb B base hW=>by have:=zl 10 [] ns [] 0 W xb B base v _ _ fst _ _ [] [] [] [] (by rw[List.drop_zero];exact T) a0 ay rfl (by simp) (by simp[jy]) (by simp;omega) hW;rw[List.drop_zero]at this;exact this);have C:Hid (∀o:Obj,da ((w.alloc o).alloc (.cells #[v,.slice none 0 0,.slice none 0 0,.int .i64 0,.slice none 0 0,.slice none 0 0] 129)) (w.heap.size+1) w.heap.size (w.heap.size+2) v (.slice none 0 0) (.slice none 0 0) 0 (.slice none 0 0) (.slice none 0 0) ns [] [] [] []):=aa (fun o=>Jd o (Nat.le_refl _) hv);have az:Hid (∀(o2:Obj)(J:World),eJ ((w.alloc (.cells #[.slice none 0 0,.slice none 0 0,.int .i64 0] 28)).alloc o2) J (w.heap.size+2) (w.heap.size+1)→bA J w.heap.size [.slice none 0 0,.slice none 0 0,.int .i64 0]):=aa (fun o2 J hk=>by have h0:bA ((w.alloc (.cells #[.slice none 0 0,.slice none 0 0,.int .i64 0] 28)).alloc o2) w.heap.size [.slice none 0 0,.slice none 0 0,.int .i64 0]:=(bA.new w [.slice none 0 0,.slice none 0 0,.int .i64 0] 28).keep (ak (ai _ _)) (by simp);have hb:=hk.block w.heap.size (by omega) (by omega);exact⟨fun i v hv=>(World.cell?_of_block (a:=⟨w.heap.size,i,none⟩) hb).trans (h0.cell i v hv),fun o=>(World.frozen?_of_block (a:=⟨w.heap.size,o,none⟩) hb).trans (h0.fz o),Nat.lt_of_lt_of_le h0.lt hk.size⟩);obtain⟨O,hO⟩:∃O,It ns=O:=⟨_,rfl⟩;rw[hO]at ah av;obtain⟨ao,cap,rfl,hc,hm,hr⟩:=hv;clear hr ax I hO T;go_enter Tryz.func48,Tryz.ntmps48;go_wp2_with(first|(go_at_call 85;refine(ah.out _ _ _ _ P.out.1).mono ?_;rintro e J⟨a4,a1,a3,a2,rfl,j,ad,-⟩;obtain⟨ps,cs,rfl⟩:=aq j.st;obtain⟨pe,ce,rfl⟩:=aq j.ed;have l:=aa j;have ag:=aa ad;have y1:=j.box.cell 1 _ rfl;have y2:=j.box.cell 2 _ rfl;have y3:=j.box.cell 3 _ rfl;have R:=aa (show bA J w.heap.size [.slice none 0 0,.slice none 0 0,.int .i64 0]from az.out _ J ((U.out.trans P.out.2).trans ad));have r0:=R.out.cell 0 _ rfl;have r1:=R.out.cell 1 _ rfl;have r2:=R.out.cell 2 _ rfl;have rz:=R.out.fz;clear j ad)|(go_at_call 84;refine(af.out _ _ _ _ (C.out _)).mono ?_;rintro e w2⟨rfl,ac⟩;have ab:=aa ((C.out _).sA (iO.cT ac));have U:=aa ((iO.cT ac).ap.jB (C.out _).sz (xb:=w.heap.size+1) (by simp));have P:=aa (Em ab.out fst);have x3:=ab.out.box.cell 3 _ rfl;have xz:=ab.out.box.fz;clear ac));refine bodyPost_ret (v:=.agg #[.slice ps O.2.1.length cs,.slice pe O.2.2.length ce,.int .i64 fst]) (by simp[results,Tryz.results48,go_sem,r0,r1,r2]) rfl ?_;rw[av.out];have hA:aw J (((J.setCell ⟨w.heap.size,0,none⟩ (.slice ps O.2.1.length cs)).setCell ⟨w.heap.size,1,none⟩ (.slice pe O.2.2.length ce)).setCell ⟨w.heap.size,2,none⟩ (.int .i64 fst)) [w.heap.size]:=((aA J w.heap.size 0 _).setCell 1 _).setCell 2 (.int .i64 fst);have off:∀{u:Value},iB (w.heap.size+2) J u→∀b∈an u,b∉[w.heap.size]:=fun hd b hb hm=>by simp at hm;have:=hd.lo b hb;omega
 exact⟨⟨_,_,rfl,bo (l.out.st.keep hA (off l.out.st.fresh)) (by omega),bo (l.out.ed.keep hA (off l.out.ed.fresh)) (by omega),l.out.four.se⟩,(uL ((U.out.trans P.out.2).trans ag.out)).trans (hA.below (uL ((U.out.trans P.out.2).trans ag.out)).size (by simp))⟩
theorem Jf{w C I:World}{U T:Option Addr}{P J:Nat}{m:aN}(l:Below w.heap.size w C)(ab:w.heap.size<C.heap.size)(h:CY C I (.returned (.agg #[.slice U m.aj.length P,.slice T m.al.length J,.int .i64 m.start])) m)(y0 y1 y2 y3:Value):lI w ((((I.setCell ⟨w.heap.size,0,none⟩ y0).setCell ⟨w.heap.size,1,none⟩ y1).setCell ⟨w.heap.size,2,none⟩ y2).setCell ⟨w.heap.size,3,none⟩ y3) (.returned (.agg #[.slice U m.aj.length P,.slice T m.al.length J,.int .i64 m.start,.int .i64 0])) m 0:=by
 obtain⟨⟨sv,ev,j,h1,h2,h3⟩,R⟩:=h;injection j with j;injection j with j;have e1:sv=.slice U m.aj.length P:=by have:=congrArg (fun a:Array Value=>a[0]?) j;simp at this;exact this.symm
 have e2:ev=.slice T m.al.length J:=by have:=congrArg (fun a:Array Value=>a[1]?) j;simp at this;exact this.symm
 subst e1;subst e2;have h4:=II I w.heap.size y0 y1 y2 y3;have off:∀{u:Value},iB C.heap.size I u→∀b∈an u,b∉[w.heap.size]:=fun hd b R hm=>by simp at hm;have:=hd.lo b R;omega
 exact⟨⟨_,_,rfl,bo (h1.keep h4 (off h1.fresh)) (by omega),bo (h2.keep h4 (off h2.fresh)) (by omega),h3⟩,tz (l.trans (R.mono l.size)) y0 y1 y2 y3⟩
theorem qS(ns:List Nd)(v:Value)(w:World)(U:∀n∈ns,n.fit)(hv:bR w w.heap.size v ns):Calls Tryz.prog 15 #[v] w fun e w'=>lI w w' e (uM ns) (CV ns):=by
 have HV:=aa hv;have ag:=aa U;have az:=hv.jc;obtain⟨ao,cap,rfl,hc,hm,hr⟩:=hv;have HO:Hid (bA (w.alloc GO) w.heap.size [.slice none 0 0,.slice none 0 0,.int .i64 0,.int .i64 0]):=aa (bA.new w [.slice none 0 0,.slice none 0 0,.int .i64 0,.int .i64 0] 30);clear hr U;by_cases h4:400<ns.length;·have P:Hid (uM ns=dG∧CV ns=2):=aa ⟨if_pos h4,if_pos h4⟩;go_enter Tryz.func15,Tryz.ntmps15;go_wp2_with fail;refine bodyPost_ret (v:=.agg #[.slice none 0 0,.slice none 0 0,.int .i64 0,.int .i64 2]) (by simp[results,Tryz.results15,go_sem]) rfl ?_;rw[P.out.1,P.out.2];exact ri 2 ((Below.refl _ _).alloc (Nat.le_refl _) _)
 ·obtain⟨q,hq⟩:∃q,cL true ns=q:=⟨_,rfl⟩;have HQ:=aa hq;have T:Hid (∀W,Below w.heap.size w W→Calls Tryz.prog 47 #[.slice ao ns.length cap] W fun e w'=>e=.returned (.bool q)∧Below W.heap.size W w'):=aa (fun W hb=>by have:=yk ns (.slice ao ns.length cap) W ag.out ((HV.out.carry hb).up hb.size);rw[hq]at this;exact this);have P:Hid (uM ns=(if q then iX ns else dG)∧CV ns=(if q then 0 else 1)):=aa (by unfold uM CV;rw[if_neg h4,if_neg h4,hq];exact⟨rfl,rfl⟩);clear hq;cases q;·go_enter Tryz.func15,Tryz.ntmps15;go_wp2_with(go_at_call 47;refine(T.out _ (ai w _)).mono ?_;rintro e w1⟨rfl,j⟩;have I:Hid (Below w.heap.size w w1):=aa ((ai w _).trans (j.mono (by simp)));have l:=aa (HO.out.keep (ak j) (by simp));have b0:=l.out.cell 0 _ rfl;have b1:=l.out.cell 1 _ rfl;have b2:=l.out.cell 2 _ rfl;have b3:=l.out.cell 3 _ rfl;have bz:=l.out.fz;clear j);refine bodyPost_ret (v:=.agg #[.slice none 0 0,.slice none 0 0,.int .i64 0,.int .i64 1]) (by simp[results,Tryz.results15,go_sem,b0,b1,b2,b3]) rfl ?_;rw[P.out.1,P.out.2];exact ri 1 (tz I.out _ _ _ _)
  ·obtain⟨ab,ax⟩:=od HQ.out;have R:Hid (∀W,Below w.heap.size w W→Calls Tryz.prog 48 #[.slice ao ns.length cap] W fun e w'=>CY W w' e (iX ns)):=aa (fun W hb=>G8 ns _ W ab ax ((HV.out.carry hb).up hb.size));obtain⟨m,ad⟩:∃m,iX ns=m:=⟨_,rfl⟩;rw[ad]at R P;clear ab ad;go_enter Tryz.func15,Tryz.ntmps15;go_wp2_with(first|(go_at_call 47;refine(T.out _ (ai w _)).mono ?_;rintro e w1⟨rfl,j⟩;have I:Hid (Below w.heap.size w w1):=aa ((ai w _).trans (j.mono (by simp)));have l:=aa (HO.out.keep (ak j) (by simp));have av:Hid (w.heap.size<w1.heap.size):=aa (by have:=j.size;simp at this;omega);clear j)|(go_at_call 48;refine(R.out _ I.out).mono ?_;intro e w2 J;obtain⟨a0,ay,rfl,af,ac,-⟩:=J.Lx;obtain⟨ps,cs,rfl⟩:=aq af;obtain⟨pe,ce,rfl⟩:=aq ac;have ah:=aa J;have C:=aa (l.out.keep (ak J.dN) (by simp));have b0:=C.out.cell 0 _ rfl;have b1:=C.out.cell 1 _ rfl;have b2:=C.out.cell 2 _ rfl;have b3:=C.out.cell 3 _ rfl;have bz:=C.out.fz;clear J af ac));refine bodyPost_ret (v:=.agg #[.slice ps m.aj.length cs,.slice pe m.al.length ce,.int .i64 m.start,.int .i64 0]) (by simp[results,Tryz.results15,go_sem,b0,b1,b2,b3]) rfl ?_;rw[P.out.1,P.out.2,if_pos trivial,if_pos trivial];exact Jf I.out av.out ah.out _ _ _ _
end
end Go.Proofs.YtlbcnmcfljaijaaGreat
