import Derived.Test.YtdiiiijkhpdcbaaGreatDoorRV28
namespace Go.Proofs.YtdiiiijkhpdcbaaGreatDoor
open Go.RowKit
set_option linter.unusedSimpArgs false
set_option linter.unusedVariables false
set_option maxHeartbeats 2000000
set_option maxRecDepth 100000
section
attribute [local go_sem ↓] Go.wp_at_zero Go.wp_at_succ
structure Hm(w wr:World)(mid:List Nd)(nv:Value)(k:Nat)(ns:List ByteArray):Prop where
 same:bZ ns (mid.drop k)=bZ [] mid
 own:wr.ownsRow w.heap.size 9 1 nv ns.length (ns.map Value.string)
 len:ns.length<=k
 bU:Below w.heap.size w wr
theorem En(all l post:List Nd)(I:Nat)(v:Value)(w:World)(S:Nat->Prop)(hS:∀g,S g->g<w.heap.size)(hl:all.length<=1000)(a7:I<=1000)(h:all.drop I=l++post)(hv:fS w S v all):Calls Tryz.prog 235 #[v,.int .i64 I,.int .i64 ((I+l.length:Nat):Int)] w fun e w'=>e=.returned (.bool (bZ [] l))/\Below w.heap.size w w':=by
 obtain⟨i0,hi,aL,aM,aN⟩:=info_parts Tryz.rE;have HI:=aa (And.intro hi (And.intro aL (And.intro aM aN)));obtain⟨ao,cap,rfl,hc,hm,-,J⟩:=hv;have HR:=aa J;have HH:=aa h;have HS:=aa hS;have a1:l.length<=1000:=by have:=congrArg List.length h;rw[List.length_drop,List.length_append]at this;omega
 obtain⟨M,hM⟩:∃M,l.length=M:=⟨_,rfl⟩;obtain⟨L,hL⟩:∃L,all.length=L:=⟨_,rfl⟩;rw[hM]at a1|-;obtain⟨T,hT⟩:∃T,I+M=T:=⟨_,rfl⟩;rw[hT];rw[hL]at hl hc|-;have HM:=aa hM;have HL:=aa hL;clear J h hS hM hL hi aL aM aN;go_enter Tryz.func235,Tryz.ntmps235;go_wp2_with fail;go_loopw[7,8](fun nv i wr=>∃(k:Nat)(ns:List ByteArray),k<=M/\i=.int .i64 ((I+k:Nat):Int)/\Hm w wr l nv k ns)(fun _ i _=>I+M-(intOf i).toNat);case atStart=>exact⟨0,[],Nat.zero_le _,rfl,⟨rfl,dE _ _ _ _ _ (Nat.le_refl _) (b6 _ _ _ rfl),Nat.le_refl _,ae _ _⟩⟩
 case round=>
  obtain⟨k,ns,hk,rfl,hR⟩:=hrel;have U:=aa hR;have aR:=hR.bU.size;have a2:=hR.len;obtain⟨np,nc,az⟩:=ar hR.own;obtain⟨Q,hQ⟩:∃Q,ns.length=Q:=⟨_,rfl⟩;rw[hQ]at az a2;have HQ:=aa hQ;subst az;by_cases ac:k<M;·
   have ay:k<l.length:=by rw[HM.out];exact ac
   obtain⟨ad,af⟩:=zZ HH.out ay;obtain⟨g,o,rfl,hg,J⟩:=HR.out (fun e=>by rw[e]at ad;simp at ad);have ax:=HS.out g hg;have P:=(J.get (I+k) ad).carry ax hR.bU;rw[af]at P;have av:Hid (∀x,l[k]=x->bZ [] l=if x.op==2 then bZ (ns++[x.name]) (l.drop (k+1))else if x.op==1&&!cw ns x.name then false else bZ ns (l.drop (k+1))):=aa (fun x hx=>by rw[<-hR.same,List.drop_eq_getElem_cons ay,hx,bZ]);obtain⟨x,hx⟩:∃x,l[k]=x:=⟨_,rfl⟩;rw[hx]at P;have ab:=aa (av.out x hx);have C:Hid (wr.ownsRow w.heap.size 9 1 (.slice np Q nc) Q (ns.map Value.string)):=aa (by have:=hR.own;rw[HQ.out]at this;exact this);obtain⟨op,name,a4,many,sort⟩:=x;obtain⟨c0,c1,c2,c3,c4⟩:=P;dsimp only at c0 c1 c2 c3 c4;rw[HL.out]at ad;have a6:g<wr.heap.size:=Nat.lt_of_lt_of_le ax aR;clear J af hx hR hQ av;by_cases h2:op=2;·
    subst h2;go_wp2_with(at_builtin;refine wpList_append_own _ rfl (.tmp 22) (.tmp 28) 42 rfl w.heap.size 9 i0 (.string ByteArray.empty) 1 16 Tryz.underlying42 HI.out.1 HI.out.2.1 HI.out.2.2.1 HI.out.2.2.2 rfl (by decide) (.slice np Q nc) Q (ns.map Value.string) rfl (aQ C.out (ae wr _)) ⟨wr.heap.size,0,none⟩ 1 1 [.string name] rfl rfl (fun j u hj=>fO _ _ _ _ (by simp) j u hj) (by intro u hu;simp at hu;subst hu;rfl) (by unfold maxLen;omega) (by omega) (by simp;omega) ?_;intro v4 w4 R ah _;have a0:=aa R;have al:Hid (aG wr w4 (ag (.slice np Q nc))):=aa (by have:=(aj (ae wr _)).trans (aD ah);rwa[List.nil_append]at this);have d0:w4.cell? ⟨g,o+(I+k)*5,none⟩=some (.int .i64 2):=al.out.eS c0 (fun hm=>absurd ((ak C.out).lo _ hm) (by omega));obtain⟨p4,a5,rfl⟩:=ar R;clear R ah);go_roundw;case rel=>
     refine⟨k+1,ns++[name],ac,by go_num,⟨?_,?_,by rw[List.length_append,HQ.out];simp;omega,U.out.bU.trans (al.out.below aR (ak C.out).lo)⟩⟩;·rw[ab.out];rfl
     ·rw[List.length_append,List.length_singleton,HQ.out,List.map_append];exact a0.out
    case measure=>simp[intOf];omega
   ·have e2:(op==2)=false:=by simpa using h2
    by_cases h1:op=1;·
     subst h1;obtain⟨q,hq⟩:∃q,cw ns name=q:=⟨_,rfl⟩;have aq:=aa hq;have an:Hid (∀W,Below wr.heap.size wr W->Calls Tryz.prog 131 #[.slice np Q nc,.string name] W fun e w'=>e=.returned (.bool q)/\w'=W):=aa (fun W hW=>by have:=fD ns name (.slice np Q nc) W (eA (base:=w.heap.size) (e:=9) (by rw[HQ.out];exact aQ C.out hW) (by rw[HQ.out];omega));rw[hq]at this;exact this);clear hq;cases q;·go_wp2_with(go_at_call 131;refine(an.out _ (Below.refl _ _)).mono ?_;rintro e w'⟨rfl,a3⟩;subst w');go_ret;refine⟨aC ?_,U.out.bU⟩;rw[ab.out];simp[aq.out]
     ·go_wp2_with(go_at_call 131;refine(an.out _ (Below.refl _ _)).mono ?_;rintro e w'⟨rfl,a3⟩;subst w');go_roundw;case rel=>refine⟨k+1,ns,ac,by go_num,⟨?_,by rw[HQ.out];exact C.out,by rw[HQ.out];omega,U.out.bU⟩⟩;rw[ab.out];simp[aq.out]
      case measure=>simp[intOf];omega
    ·have e1:(op==1)=false:=by simpa using h1
     go_wp2_with fail;go_roundw;case rel=>refine⟨k+1,ns,ac,by go_num,⟨?_,by rw[HQ.out];exact C.out,by rw[HQ.out];omega,U.out.bU⟩⟩;rw[ab.out];simp[e1,e2]
     case measure=>simp[intOf];omega
  ·have HT:Hid (bZ [] l=true):=aa (by rw[<-U.out.same,List.drop_of_length_le (by rw[HM.out];omega),bZ]);go_wp2_with fail;go_ret;exact⟨aC HT.out,U.out.bU⟩
section
variable {n : Nat}
def BV.pB(x:BV n):List Value:=[.int .i64 4,.string x.b.l,.string ByteArray.empty,.int .i64 0,.int .i64 x.b.s,x.u]
theorem BV.vj(x:BV n):x.pB.length=6:=rfl
theorem Aq{w:World}{S:Nat->Prop}{x:BV n}{r:List Nd}(h:fS w S x.u r):∀u∈x.pB,u.oneCell'=true:=by
 intro u hu;obtain⟨j,cap,e,-⟩:=h;simp[BV.pB]at hu;rcases hu with rfl|rfl|rfl|rfl|rfl|rfl;·rfl
 ·rfl
 ·rfl
 ·rfl
 ·rfl
 ·rw[e];rfl
structure xP(S:Nat->Prop)(a:Nat)(w:World)(base:Nat)(v:Value)(l:List (BV n)):Prop where
 own:w.ownsRow base 356 6 v l.length (l.flatMap BV.pB)
 Ge:∀x∈l,fS w (sK S a w.heap.size v) x.u (aw n x.b.p)
 low:∀g,S g->g<a
 ab:a<=base
 qj:a<=w.heap.size
variable {S : Nat -> Prop} {a : Nat}
theorem xP.aB{w w':World}{base:Nat}{v:Value}{l:List (BV n)}(h:xP S a w base v l)(j:Below w.heap.size w w'):xP S a w' base v l:=⟨aQ h.own j,fun x I=>(h.Ge x I).carry (fun g C=>j.block g (eH h.low h.qj C.1)) (fun _ C=>⟨gq j.size C.1,C.2⟩),h.low,h.ab,Nat.le_trans h.qj j.size⟩
theorem xP.get{w:World}{base g c:Nat}{l:List (BV n)}(h:xP S a w base (.slice (some ⟨g,0,none⟩) l.length c) l){i:Nat}{x:BV n}(hi:l[i]?=some x)(j:Nat)(J:j<6)(y:Value)(P:x.pB[j]?=some y):w.cell? ⟨g,i*6+j,none⟩=some y:=by obtain⟨C,I⟩:=List.getElem?_eq_some_iff.1 hi;exact cQ h.own rfl (i*6+j) y ((dQ BV.pB 6 BV.vj l i C j J).trans (by rw[I];exact P))
theorem CN{w P:World}{base:Nat}{v R:Value}{l:List (BV n)}(h:xP S a w base v l)(x:BV n)(hx:fS w (sK S a w.heap.size v) x.u (aw n x.b.p))(o:Obj)(I:P.ownsRow base 356 6 R (l.length+1) (l.flatMap BV.pB++x.pB))(C:(w.alloc o).grownBy P v.ownBlock)(T:R.ownBlock=v.ownBlock\/R.ownBlock=some (w.alloc o).heap.size):xP S a P base R (l++[x])/\aG w P (ag v)/\∀b∈ag R,b∈ag v\/w.heap.size<=b:=by
 obtain⟨p,c,hv⟩:=ar h.own;obtain⟨p',c',U⟩:=ar I;have hA:aG w P (ag v):=by rw[hv]at C|-;have:=(aj (ae w o)).trans (aD C);rwa[List.nil_append]at this
 have key:∀{r:List Nd}{u:Value},fS w (sK S a w.heap.size v) u r->fS P (sK S a P.heap.size R) u r:=fun hq=>hq.carry (fun g C=>hA.block g (eH h.low h.qj C.1) C.2) (fun g C=>⟨gq hA.size C.1,fun hm=>by
  have j:=(aS U).2 hm;rcases T with e|e;·rw[e]at j;exact C.2 ((aS hv).1 j)
  ·rw[e]at j;have:=eH h.low h.qj C.1;simp at j;omega⟩);refine⟨⟨?_,fun y J=>?_,h.low,h.ab,Nat.le_trans h.qj hA.size⟩,hA,fun b hm=>?_⟩;·rw[List.length_append,List.length_singleton,List.flatMap_append];simpa using I
 ·rw[List.mem_append]at J;rcases J with J|J;·exact key (h.Ge y J)
  ·simp at J;subst J;exact key hx
 ·have j:=(aS U).2 hm;rcases T with e|e;·rw[e]at j;exact .inl ((aS hv).1 j)
  ·rw[e]at j;simp at j;exact .inr (by omega)
theorem Ar:∀(l:List (BV n))(i:Nat)(x:BV n)(u:Value),l[i]?=some x->(l.flatMap BV.pB).set (i*6+5) u=(l.set i ⟨x.b,u⟩).flatMap BV.pB
 |[],i,x,u,h=>by simp at h|a::l,0,x,u,h=>by simp at h;subst h;rfl|a::l,i+1,x,u,h=>by
  rw[List.getElem?_cons_succ]at h;rw[List.set_cons_succ,List.flatMap_cons,List.flatMap_cons,<-Ar l i x u h];have e:(i+1)*6+5=a.pB.length+(i*6+5):=by rw[BV.vj];omega
  rw[e,List.set_append_right _ _ (by omega),Nat.add_sub_cancel_left]
theorem Fq{w:World}{base g cap:Nat}{l:List (BV n)}(h:xP S a w base (.slice (some ⟨g,0,none⟩) l.length cap) l){i:Nat}{x:BV n}(hi:l[i]?=some x)(q:Pn n)(u:Value)(hu:fS w (sK S a w.heap.size (.slice (some ⟨g,0,none⟩) l.length cap)) u (aw n q)):xP S a (w.setCell ⟨g,i*6+5,none⟩ u) base (.slice (some ⟨g,0,none⟩) l.length cap) (l.set i ⟨⟨x.b.l,x.b.s,q⟩,u⟩):=by
 have I:=aI w g (i*6+5) u;have key:∀{r:List Nd}{J:Value},fS w (sK S a w.heap.size (.slice (some ⟨g,0,none⟩) l.length cap)) J r->fS (w.setCell ⟨g,i*6+5,none⟩ u) (sK S a (w.setCell ⟨g,i*6+5,none⟩ u).heap.size (.slice (some ⟨g,0,none⟩) l.length cap)) J r:=fun R=>R.carry (fun b j=>I.block b (eH h.low h.qj j.1) (fun P=>j.2 (by simpa[ag,aJ]using P))) (fun b j=>⟨gq I.size j.1,j.2⟩);refine⟨?_,fun y C=>?_,h.low,h.ab,Nat.le_trans h.qj I.size⟩;·
  have:=(World.ownsRow.stored h.own (i*6+5) u).1;rw[Ar l i x u hi]at this;rw[List.length_set];have e:(l.set i ⟨x.b,u⟩).flatMap BV.pB=(l.set i ⟨⟨x.b.l,x.b.s,q⟩,u⟩).flatMap BV.pB:=by clear hi this hu h I key;induction l generalizing i with|nil=>rfl|cons a l ih=>cases i with|zero=>rfl|succ i=>rw[List.set_cons_succ,List.set_cons_succ,List.flatMap_cons,List.flatMap_cons,ih]
  rw[<-e];exact this
 ·rcases kf C with C|C;·exact key (h.Ge y C)
  ·subst C;exact key hu
end
theorem Am{w:World}{g:Nat}:∀{l r:List Nd}{o:Nat},cV w g o (l++r)->cV w g o l|[],_,_,_=>trivial|_::_,_,_,h=>⟨h.1,Am h.2⟩
theorem Tryz.Dj:(Tryz.prog.info? 356).map (fun i=>(i.zero,i.size,i.bytes))=some (some (.agg #[.int .i64 0,.string ByteArray.empty,.string ByteArray.empty,.int .i64 0,.int .i64 0,.slice none 0 0]),6,80):=by kernel_rfl
structure Ho(n:Nat)(S:Nat->Prop)(w wr:World)(all:List Nd)(cs:List (Br (Pn n)))(cv:Value)(k p:Nat)(acc:List (BV n)):Prop where
 done:acc.map BV.b=cs.take k
 rest:all.drop p=aV (aw n) (cs.drop k)
 own:wr.ownsRow w.heap.size 356 6 cv acc.length (acc.flatMap BV.pB)
 Ge:∀x∈acc,fS wr S x.u (aw n x.b.p)
 bU:Below w.heap.size w wr
 le:p<=all.length
theorem Ap(n:Nat)(t:Tk)(cs:List (Br (Pn n)))(bn:∀b∈cs,bJ n b.p)(all:List Nd)(I:all=aw (n+1) (.cU t cs))(hl:all.length<=1000)(v:Value)(w:World)(S:Nat->Prop)(hS:∀g,S g->g<w.heap.size)(hv:fS w S v all):Calls Tryz.prog 292 #[v] w fun e w'=>∃(v':Value)(L:List (BV n)),e=.returned v'/\L.map BV.b=cs/\w'.ownsRow w.heap.size 356 6 v' L.length (L.flatMap BV.pB)/\(∀x∈L,fS w' S x.u (aw n x.b.p))/\Below w.heap.size w w':=by
 obtain⟨i0,hi,bp,br,bs⟩:=info_parts Tryz.Dj;have HI:=aa (And.intro hi (And.intro bp (And.intro br bs)));rw[bI]at I;have bb:all≠[]:=by rw[I];simp
 have h0:all.drop 0=⟨t.op,t.a,t.b,(cs.length:Int),0⟩::aV (aw n) cs++[]:=by rw[List.append_nil,List.drop_zero];exact I
 obtain⟨aR,a8,h1⟩:=eo h0;have HB:Hid (∀(k p:Nat)(b:Br (Pn n)),cs[k]?=some b->all.drop p=aV (aw n) (cs.drop k)->all[p]?=some ⟨4,b.l,df,0,b.s⟩/\all.drop (p+1)=aw n b.p++aV (aw n) (cs.drop (k+1))/\all.drop (p+1+(aw n b.p).length)=aV (aw n) (cs.drop (k+1))/\p+1+(aw n b.p).length<=all.length/\∀W,Below w.heap.size w W->Calls Tryz.prog 233 #[v,.int .i64 ((p:Int)+1)] W fun e w'=>e=.returned (.int .i64 ((p+1+(aw n b.p).length:Nat):Int))/\Below W.heap.size W w'):=aa (fun k p b hb hd=>by
  have ax:=(List.getElem?_eq_some_iff.1 hb).1;have bM:cs[k]=b:=(List.getElem?_eq_some_iff.1 hb).2;rw[List.drop_eq_getElem_cons ax,bM,cC]at hd;obtain⟨b1,ay,h2⟩:=eo (r:=aw n b.p++aV (aw n) (cs.drop (k+1))) (post:=[]) (by rw[hd,List.append_nil]);rw[List.append_nil]at h2;have bf:aw n b.p≠[]:=fun e=>by have:=dc n b.p;rw[e]at this;simp at this
  exact⟨by rw[List.getElem?_eq_getElem b1,ay],h2,oO h2,by have:=ra h2 bf;omega,fun W hW=>iS n b.p all _ (p+1) v W S (fun g hg=>Nat.lt_of_lt_of_le (hS g hg) hW.size) (bn b (List.mem_of_getElem? hb)) hl h2 (hv.on hS hW)⟩);have HV:=aa hv;obtain⟨ao,cap,rfl,hc,hm,-,J⟩:=hv;obtain⟨g,o,rfl,hg,J⟩:=J bb;have aq:=hS g hg;have ay:=J.get 0 aR;rw[a8]at ay;obtain⟨-,-,-,c3,-⟩:=ay;dsimp only at c3;rw[Nat.zero_mul,Nat.add_zero]at c3;have bR:cs.length<=1000:=by have:=fV (aw n) cs;have:=congrArg List.length I;rw[List.length_cons]at this;omega
 have az:=aa J;have HG:=aa hg;have a1:=aa hS;have H1:Hid (all.drop 1=aV (aw n) cs):=aa (by rw[List.append_nil,Nat.zero_add]at h1;exact h1);obtain⟨K,hK⟩:∃K,cs.length=K:=⟨_,rfl⟩;rw[hK]at c3 bR;have HK:=aa hK;obtain⟨M,hM⟩:∃M,all.length=M:=⟨_,rfl⟩;rw[hM]at aR hl hc HB|-;have HM:=aa hM;clear hi bp br bs I bb h0 h1 a8 J hK hM bn hg;go_enter Tryz.func292,Tryz.ntmps292;go_wp2_with fail;go_loopw[3,4,5](fun cv av kv wr=>∃(k p:Nat)(C:List (BV n)),k<=K/\kv=.int .i64 k/\av=.int .i64 p/\Ho n S w wr all cs cv k p C)(fun _ _ kv _=>K-(intOf kv).toNat);case atStart=>exact⟨0,1,[],Nat.zero_le _,rfl,rfl,⟨rfl,H1.out,dE _ _ _ _ _ (Nat.le_refl _) (b6 _ _ _ rfl),(fun x hx=>by cases hx),ae _ _,by rw[HM.out];exact aR⟩⟩
 case round=>
  obtain⟨k,p,C,hk,rfl,rfl,hR⟩:=hrel;have HR:=aa hR;have bv:=hR.bU.size;have bl:=hR.le;rw[HM.out]at bl;have P:C.length=k:=by have:=congrArg List.length hR.done;rw[List.length_map,List.length_take,HK.out]at this;omega
  obtain⟨cp,cc,a4⟩:=ar hR.own;rw[P]at a4;subst a4;have af:=aa P;have d3:=(hR.bU.cell (p:=⟨g,o+3,none⟩) aq).trans c3;clear P;by_cases ax:k<K;·
   obtain⟨d,aN⟩:∃d,cs[k]?=some d:=⟨cs[k]'(by rw[HK.out];exact ax),List.getElem?_eq_getElem _⟩;obtain⟨a7,a5,a6,an,ac⟩:=HB.out k p d aN hR.rest;obtain⟨bk,bi⟩:=List.getElem?_eq_some_iff.1 a7;have HC:=aa ac;have ah:=aa a6;have a9:=(az.out.get p bk).carry aq hR.bU;rw[bi]at a9;have bm:=dc n d.p;have al:Hid (∀W,Below w.heap.size w W->fS W S (.slice (some ⟨g,o+(p+1)*5,none⟩) (aw n d.p).length (cap-(p+1))) (aw n d.p)):=aa (fun W hW=>by refine⟨_,_,rfl,by omega,by omega,by omega,fun _=>⟨g,_,rfl,HG.out,?_⟩⟩;have:=az.out.drop (p+1);rw[a5]at this;exact(Am this).block (hW.block g aq));obtain⟨dl,ds,dp⟩:=d;obtain⟨c0,c1,c2,a2,c4⟩:=a9;dsimp only at c0 c1 c2 a2 c4 bm an;have bB:Hid (C.map BV.b++[⟨dl,ds,dp⟩]=cs.take (k+1)):=aa (by rw[hR.done,List.take_add_one,aN];rfl);obtain⟨N,hN⟩:∃N,(aw n dp).length=N:=⟨_,rfl⟩;obtain⟨T,hT⟩:∃T,p+1+N=T:=⟨_,rfl⟩;dsimp only at al HC ah;rw[hN]at al HC ah bm an;rw[hT]at HC ah an;have b2:p+1<cap:=by omega
   have b7:p<M:=by omega
   clear ac aN bk bi a5 a6 hR a7;go_wp2_with(go_at_call 233;refine(HC.out _ HR.out.bU).mono ?_;rintro e w2⟨rfl,R⟩;have ab:=aa R;have ad:g<wr.heap.size:=Nat.lt_of_lt_of_le aq bv;have x0:=(R.cell (p:=⟨g,o+p*5,none⟩) ad).trans c0;have x1:=(R.cell (p:=⟨g,o+p*5+1,none⟩) ad).trans c1;have x2:=(R.cell (p:=⟨g,o+p*5+2,none⟩) ad).trans c2;have x3:=(R.cell (p:=⟨g,o+p*5+3,none⟩) ad).trans a2;have x4:=(R.cell (p:=⟨g,o+p*5+4,none⟩) ad).trans c4;clear R);have a0:Hid (w2.drew.ownsRow w.heap.size 356 6 (.slice cp k cc) k (C.flatMap BV.pB)):=aa (by have:=aQ HR.out.own (ab.out.trans ((Below.refl _ _).drew.mono ab.out.size));rw[af.out]at this;exact this);have b4:T-(p+1)=N:=by omega
   have cg:IntKind.i64.wrap ((p:Int)+1)=(p:Int)+1:=by rw[IntKind.wrap_i64];omega
   have cb:0<=(p:Int)+1:=by omega
   have cd:(p:Int)+1<=T:=by omega
   have cf:¬cap=p+1:=by omega
   have ca:p+1<=T:=by omega
   have b5:T<=cap:=by omega
   go_region_law(refine gh rfl (.tmp 20) (.tmp 31) 351 rfl w.heap.size 356 i0 (.agg #[.int .i64 0,.string ByteArray.empty,.string ByteArray.empty,.int .i64 0,.int .i64 0,.slice none 0 0]) 6 80 Tryz.underlying351 HI.out.1 HI.out.2.1 HI.out.2.2.1 HI.out.2.2.2 rfl (by decide) (.slice cp k cc) k (C.flatMap BV.pB) (by simp[Act.eval]) (aQ a0.out (ae _ _)) ⟨w2.heap.size,0,none⟩ 1 1 (BV.pB (n:=n) ⟨⟨dl,ds,dp⟩,.slice (some ⟨g,o+(p+1)*5,none⟩) N (cap-(p+1))⟩) (by simp[Act.eval]) rfl (fun j u hj=>fO _ _ _ _ (by simp) j u hj) (Aq (al.out w (Below.refl _ _))) (by unfold maxLen;omega) (by omega) (by have:=ab.out.size;simp;omega) ?_;intro v4 w4 U aL a3;have bz:=aa U;have bx:Hid (aG w2.drew w4 (ag (.slice cp k cc))):=aa (by have:=(aj (ae w2.drew _)).trans (aD aL);rwa[List.nil_append]at this);obtain⟨p4,b3,rfl⟩:=ar U;clear U aL a3);all_goals
    go_wp2_with fail;go_roundw;case rel=>
     have b0:=(ak a0.out).lo;have bL:Below w.heap.size w2.drew w4:=bx.out.below (by have:=ab.out.size;simp;omega) b0;have bN:Below w.heap.size w w2.drew:=(HR.out.bU.trans (ab.out.mono bv)).drew;have aM:Below w.heap.size w w4:=bN.trans bL;refine⟨k+1,T,C++[⟨⟨dl,ds,dp⟩,.slice (some ⟨g,o+(p+1)*5,none⟩) N (cap-(p+1))⟩],ax,by go_num,rfl,⟨by rw[List.map_append];exact bB.out,ah.out,?_,fun x hx=>?_,aM,by rw[HM.out];exact an⟩⟩;·rw[List.length_append,List.length_singleton,af.out,List.flatMap_append];simpa using bz.out
     ·rw[List.mem_append]at hx;rcases hx with hx|hx;·exact(HR.out.Ge x hx).carry (fun b hb=>(aM.block b (a1.out b hb)).trans (HR.out.bU.block b (a1.out b hb)).symm) (fun _ h=>h)
      ·simp at hx;subst hx;exact al.out w4 aM
    case measure=>simp[intOf];omega
  ·obtain rfl:k=K:=by omega
   have HE:Hid (C.map BV.b=cs):=aa (by rw[hR.done];exact List.take_of_length_le (by rw[HK.out];exact Nat.le_refl _));clear hR;go_wp2_with fail;go_ret;exact⟨_,C,rfl,HE.out,by rw[af.out];have:=HR.out.own;rw[af.out]at this;exact this,HR.out.Ge,HR.out.bU⟩
end
