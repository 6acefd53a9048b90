import Derived.Test.YtdiiiijkhpdcbaaGreatDoorRX22
import Derived.Test.YtdiiiijkhpdcbaaGreatDoorRX15
import Derived.Test.YtdiiiijkhpdcbaaGreatDoorRX21
namespace Go.Proofs.YtdiiiijkhpdcbaaGreatDoor
open Go.RowKit
set_option linter.unusedSimpArgs false
set_option linter.unusedVariables false
set_option maxHeartbeats 2000000
set_option maxRecDepth 100000
section
attribute [local go_sem ↓] Go.wp_at_zero Go.wp_at_succ
def Ib(ns:List Nd):cj:=if 400<ns.length then py else if cE true ns then jP ns else py
def Ia(ns:List Nd):Int:=if 400<ns.length then 2 else if cE true ns then 0 else 1
theorem jw{ns:List Nd}(h:cE true ns=true):ahead (bC true) 10 [] ns=some []/\ns.length<=40:=by rw[cE]at h;simp only[Bool.and_eq_true,decide_eq_true_eq,beq_iff_eq]at h;refine⟨?_,h.1⟩;cases j:ahead (bC true) 10 [] ns with|none=>rw[j]at h;simp at h|some r=>rw[j]at h;simp at h;rw[h.2.1]
theorem zO{w w':World}(C:Int)(j:ZW w w'):zG w w' (.returned (.agg #[.slice none 0 0,.slice none 0 0,.int .i64 0,.int .i64 C])) py C:=⟨⟨_,_,rfl,cF.nil _ _,bD.nil _ _,by simp[ae,aJ]⟩,j⟩
theorem gG.below{w w':World}{base B:Nat}{l:List Nat}(h:gG w w' base l)(I:B<=base)(j:∀b∈l,B<=b):Below B w w':=⟨h.os,h.tape,h.output,h.size,fun k J=>h.block k (by omega) (fun C=>absurd (j k C) (by omega))⟩
theorem gG.box{w w':World}{base b:Nat}{l:List Nat}{J:List Value}(h:gG w w' base l)(C:b<base)(I:b∉l)(j:aV w b J):aV w' b J:=⟨fun i v P=>(World.cell?_of_block (a:=⟨b,i,none⟩) (h.block b C I)).trans (j.cell i v P),fun o=>(World.frozen?_of_block (a:=⟨b,o,none⟩) (h.block b C I)).trans (j.fz o),Nat.lt_of_lt_of_le j.lt h.size⟩
theorem Jr(w:World):ie ((w.alloc (.map #[] 0)).alloc (.cells #[.slice none 0 0,.slice none 0 0,.int .i64 0,.map (some w.heap.size)] 309)) (w.heap.size+1) w.heap.size (w.heap.size+2) (.slice none 0 0) (.slice none 0 0) 0 ⟨[],[],fun _=>0⟩:=by
 refine⟨?_,cF.nil _ _,bD.nil _ _,?_,by simp[ae,aJ],⟨by omega,by omega,by omega⟩,by simp⟩;·have:=aV.new (w.alloc (.map #[] 0)) [.slice none 0 0,.slice none 0 0,.int .i64 0,.map (some w.heap.size)] 309;simpa[ZW]using this
 ·exact(IL w).aA (aj (ag _ _)) (by simp)
theorem DP{j w3:World}{C I:Obj}(h:gG ((j.alloc C).alloc I) w3 (j.heap.size+2) [j.heap.size+1,j.heap.size]):gG j w3 j.heap.size []:=have J:ZW j ((j.alloc C).alloc I):=(ag _ _).trans ((ag _ _).mono (by simp));⟨h.os,h.tape,h.output,by have:=h.size;simp at this;omega,fun b l _=>(h.block b (by omega) (by simp;omega)).trans (J.block b l)⟩
theorem I2{w l w3 R:World}{ps pe:Option Addr}{cs ce nf:Nat}{Z:Wv}{es:List aC}{i:Int}(I:ZW w l)(ac:w.heap.size<l.heap.size)(T:ie w3 (l.heap.size+1) l.heap.size (l.heap.size+2) (.slice ps Z.sts.length cs) (.slice pe Z.eds.length ce) nf Z)(J:gG l w3 l.heap.size [])(ab:aH (w3.setCell ⟨l.heap.size+1,2,none⟩ (.int .i64 i)) R (ae (.slice pe Z.eds.length ce)))(P:bD R (l.heap.size+2) (.slice pe Z.eds.length ce) es)(y0 y1 y2 y3:Value):zG w ((((R.setCell ⟨w.heap.size,0,none⟩ y0).setCell ⟨w.heap.size,1,none⟩ y1).setCell ⟨w.heap.size,2,none⟩ y2).setCell ⟨w.heap.size,3,none⟩ y3) (.returned (.agg #[.slice ps Z.sts.length cs,.slice pe Z.eds.length ce,.int .i64 i,.int .i64 0])) ⟨Z.sts,es,i⟩ 0:=by
 have hS:=aG w3 (l.heap.size+1) 2 (.int .i64 i);have hA:=hS.trans ab;have lo:=T.ed.fresh.lo;have h4:=KD R w.heap.size y0 y1 y2 y3;have U:ZW w R:=by
  refine(I.trans (J.below I.size (by simp))).trans (hA.below (Nat.le_trans I.size J.size) (fun b j=>?_));rw[List.mem_append]at j;rcases j with j|j;·simp at j;omega
  ·have:=lo b j;omega
 refine⟨⟨_,_,rfl,?_,?_,T.Hu⟩,J6 U y0 y1 y2 y3⟩;·
  have hs:=T.st;refine bH (base:=l.heap.size+2) ((hs.aA hA (fun b j C=>?_)).aA h4 (fun b j C=>by have:=hs.fresh.lo b j;simp at C;omega)) (by omega);rw[List.mem_append]at C;rcases C with C|C;·have:=hs.fresh.lo b j;simp at C;omega
  ·exact T.Hu b j C
 ·exact bH (P.aA h4 (fun b j C=>by have:=P.fresh.lo b j;simp at C;omega)) (by omega)
theorem wQ(ns:List Nd)(v:Value)(w:World)(ax:∀n∈ns,n.fit)(hv:bF w w.heap.size v ns):Calls Tryz.prog 214 #[v] w fun e w'=>zG w w' e (Ib ns) (Ia ns):=by
 have HV:=aa hv;have an:=aa ax;have a1:=hv.iF;obtain⟨ao,cap,rfl,hc,hm,hr⟩:=hv;have HO:Hid (aV (w.alloc Kv) w.heap.size [.slice none 0 0,.slice none 0 0,.int .i64 0,.int .i64 0]):=aa (aV.new w [.slice none 0 0,.slice none 0 0,.int .i64 0,.int .i64 0] 253);clear hr ax;by_cases h4:400<ns.length;·have HT:Hid (Ib ns=py/\Ia ns=2):=aa ⟨if_pos h4,if_pos h4⟩;go_in;go_wp2;refine bodyPost_ret (v:=.agg #[.slice none 0 0,.slice none 0 0,.int .i64 0,.int .i64 2]) (by simp[results,Tryz.results214,go_sem]) rfl ?_;rw[HT.out.1,HT.out.2];exact zO 2 ((Below.refl _ _).alloc (Nat.le_refl _) _)
 ·obtain⟨q,hq⟩:∃q,cE true ns=q:=⟨_,rfl⟩;have HQ:=aa hq;have av:Hid (∀W,ZW w W->Calls Tryz.prog 251 #[.slice ao ns.length cap] W fun e w'=>e=.returned (.bool q)/\ZW W w'):=aa (fun W U=>by have:=yW ns (.slice ao ns.length cap) W an.out ((HV.out.carry U).up U.size);rw[hq]at this;exact this);have HT:Hid (Ib ns=(if q then jP ns else py)/\Ia ns=(if q then 0 else 1)):=aa (by unfold Ib Ia;rw[if_neg h4,if_neg h4,hq];exact⟨rfl,rfl⟩);clear hq;cases q;·go_in;go_wp2_with(go_at_call 251;refine(av.out _ (ag w _)).mono ?_;rintro e T⟨rfl,j⟩;have ab:Hid (ZW w T):=aa ((ag w _).trans (j.mono (by simp)));have C:=aa (HO.out.aA (aj j) (by simp));have b0:=C.out.cell 0 _ rfl;have b1:=C.out.cell 1 _ rfl;have b2:=C.out.cell 2 _ rfl;have b3:=C.out.cell 3 _ rfl;have bz:=C.out.fz;clear j);refine bodyPost_ret (v:=.agg #[.slice none 0 0,.slice none 0 0,.int .i64 0,.int .i64 1]) (by simp[results,Tryz.results214,go_sem,b0,b1,b2,b3]) rfl ?_;rw[HT.out.1,HT.out.2];exact zO 1 (J6 ab.out _ _ _ _)
  ·obtain⟨R,a0⟩:=jw HQ.out;have aR:=aa R;have ah:=aa (fun es hp hu=>DY (es:=es) R hp hu);have af:Hid (∀I:World,ZW w I->Calls Tryz.prog 252 #[.pointer (some ⟨I.heap.size+1,0,none⟩),.slice ao ns.length cap] ((I.alloc (.map #[] 0)).alloc (.cells #[.slice none 0 0,.slice none 0 0,.int .i64 0,.map (some I.heap.size)] 309)) fun e w'=>pQ ((I.alloc (.map #[] 0)).alloc (.cells #[.slice none 0 0,.slice none 0 0,.int .i64 0,.map (some I.heap.size)] 309)) w' w.heap.size (I.heap.size+1) I.heap.size (I.heap.size+2) 0 e ns [] (Fy ns).1 (Fy ns).2.2):=aa (fun I U=>Bd 10 [] ns [] _ _ w.heap.size (I.heap.size+1) I.heap.size (I.heap.size+2) 0 _ _ _ R (fun n hn=>an.out n hn) ((HV.out.carry U).carry (((ag _ _).trans ((ag _ _).mono (by simp))).mono U.size)) (by have:=U.size;omega) (by have:=U.size;omega) U.size (Jr I) ⟨by simp;omega,by simp;omega,by omega⟩);obtain⟨i,hi⟩:∃i,(Fy ns).1=i:=⟨_,rfl⟩;obtain⟨Z,hZ⟩:∃Z,(Fy ns).2.2=Z:=⟨_,rfl⟩;have aN:Hid (Z.eds.length<=1000):=aa (by have:=(uX 10 [] ns [] ⟨[],[],fun _=>0⟩ R).2.eds;rw[<-hZ];unfold Fy;simp at this;omega);rw[hi,hZ]at af ah;have a2:∀W:World,(Instr.makeMap 307 none).run Tryz.prog W=.ok (.map (some W.heap.size)) (W.alloc (.map #[] 0)):=fun W=>rfl;clear R hi hZ;go_in;go_wp2_with(first|(go_at_call 251;refine(av.out _ (ag w _)).mono ?_;rintro e T⟨rfl,j⟩;have ab:Hid (ZW w T):=aa ((ag w _).trans (j.mono (by simp)));have C:=aa (HO.out.aA (aj j) (by simp));have ac:Hid (w.heap.size<T.heap.size):=aa (by have:=j.size;simp at this;omega);clear j)|(go_at_call 252;refine(af.out T ab.out).mono ?_;rintro e w3⟨v3,sv,ev,a3,rfl,-,l,-,ay⟩;have J:=aa l;have aq:Hid (gG T w3 (T.heap.size) []):=aa (DP ay);obtain⟨ps,cs,rfl⟩:=ar l.st;obtain⟨pe,ce,rfl⟩:=ar l.ed;have x0:=l.box.cell 0 _ rfl;have x1:=l.box.cell 1 _ rfl;have x2:=l.box.cell 2 _ rfl;have xz:=l.box.fz;clear l ay)|(go_at_call 253;refine(zi Z.eds (T.heap.size+2) (.slice pe Z.eds.length ce) (w3.setCell ⟨T.heap.size+1,2,none⟩ (.int .i64 i)) (J.out.ed.aA (aG w3 (T.heap.size+1) 2 (.int .i64 i)) (fun b U hm=>by have:=J.out.ed.fresh.lo b U;simp at hm;omega)) aN.out).mono ?_;rintro e w4⟨rfl,es,hp,hu,az,ad⟩;have HP:=aa hp;have HU:=aa hu;have aM:=aa az;have aL:=aa ad;have al:=aa (((J.out.box.set 2 (by simp) (.int .i64 i))).aA ad (fun hm=>by have:=J.out.ed.fresh.lo _ hm;omega));have y0:=al.out.cell 0 _ rfl;have y1:=al.out.cell 1 _ rfl;have y2:=al.out.cell 2 _ rfl;have P:=aa (((aq.out.box ac.out (by simp) C.out).aA (aG w3 (T.heap.size+1) 2 (.int .i64 i)) (by have:=ac.out;simp;omega)).aA ad (fun hm=>by have:=J.out.ed.fresh.lo _ hm;have:=ac.out;omega));have b0:=P.out.cell 0 _ rfl;have b1:=P.out.cell 1 _ rfl;have b2:=P.out.cell 2 _ rfl;have b3:=P.out.cell 3 _ rfl;have bz:=P.out.fz;clear hp hu az ad));refine bodyPost_ret (v:=.agg #[.slice ps Z.sts.length cs,.slice pe Z.eds.length ce,.int .i64 i,.int .i64 0]) (by simp[results,Tryz.results214,go_sem,b0,b1,b2,b3]) rfl ?_;rw[HT.out.1,HT.out.2,if_pos trivial,if_pos trivial,(ah.out es HP.out HU.out).2];exact I2 ab.out ac.out J.out aq.out aL.out aM.out _ _ _ _
end
structure A5(S:List aP)(e:aC):Prop where
 s0:0<=e.src
 s1:e.src<(S.length:Int)
 d0:0<=e.dst
 d1:e.dst<(S.length:Int)
 nm:ct e.label=true
 so:0<=e.sort/\e.sort<=2
 kd:∃x,S[e.src.toNat]?=some x/\x.kind≠0
theorem A5.more{S:List aP}{e:aC}(h:A5 S e)(T:List aP):A5 (S++T) e:=by obtain⟨x,C,l⟩:=h.kd;have j:(S++T).length=S.length+T.length:=List.length_append;have I:=h.s1;have J:=h.d1;refine⟨h.s0,by rw[j];omega,h.d0,by rw[j];omega,h.nm,h.so,x,?_,l⟩;rw[List.getElem?_append_left (by have:=h.s0;omega)];exact C
structure Ip(st l:List Nd)(fs:ByteArray->Int)(n:Nat):Prop where
 said:∀t,eR false st t=true->0<=fs t/\fs t<(n:Int)
 open_:fH l=false->∀t,bW st t=true->0<=fs t/\fs t<=(n:Int)
structure Gd(st:List Nd)(fs:ByteArray->Int)(sts:List aP)(eds:List aC)(o:Wv):Prop where
 sts:∃sN,o.sts=sts++sN/\∀x∈sN,lu x=true
 eds:∃eN,o.eds=eds++eN/\∀e∈eN,A5 o.sts e
 fs:∀t,bW st t=true->o.fs t=fs t
theorem Gd.trans{st:List Nd}{fs:ByteArray->Int}{sts:List aP}{eds:List aC}{o P:Wv}(h:Gd st fs sts eds o)(C:Gd st o.fs o.sts o.eds P):Gd st fs sts eds P:=by
 obtain⟨s1,T,k1⟩:=h.sts;obtain⟨R,I,k2⟩:=C.sts;obtain⟨d1,U,g1⟩:=h.eds;obtain⟨d2,f2,g2⟩:=C.eds;refine⟨⟨s1++R,by rw[I,T,List.append_assoc],fun x l=>?_⟩,⟨d1++d2,by rw[f2,U,List.append_assoc],fun e j=>?_⟩,fun t J=>(C.fs t J).trans (h.fs t J)⟩;·
  rcases List.mem_append.1 l with l|l;·exact k1 x l
  ·exact k2 x l
 ·rcases List.mem_append.1 j with j|j;·rw[I];exact(g1 e j).more R
  ·exact g2 e j
theorem Gd.more{st:List Nd}{fs:ByteArray->Int}{sts:List aP}{eds:List aC}{o:Wv}(h:Gd st fs sts eds o):sts.length<=o.sts.length:=by obtain⟨s,e,-⟩:=h.sts;rw[e,List.length_append];omega
def KB(f:Nat):Prop:=∀(st l r:List Nd)(fs:ByteArray->Int)(sts:List aP)(eds:List aC),ahead (bC true) f st l=some r->jm st->Ip st l fs sts.length->Gd st fs sts eds (wv f l ⟨sts,eds,fs⟩).2.2/\0<=(wv f l ⟨sts,eds,fs⟩).1/\(wv f l ⟨sts,eds,fs⟩).1<((wv f l ⟨sts,eds,fs⟩).2.2.sts.length:Int)
theorem FP{c:Nd}(h:eE c=true):ct c.name=true/\0<=c.sort/\c.sort<=2:=by
 simp only[eE,Bool.and_eq_true]at h;obtain⟨⟨-,j⟩,l⟩:=h;refine⟨?_,?_⟩;·simp only[cX,Bool.and_eq_true]at j;exact j.1
 ·simpa[ZW,ll]using l
theorem Ai{f:Nat}(hf:KB f)(st:List Nd)(C:jm st)(s:Nat):∀(m:Nat)(ls:List ByteArray)(l r:List Nd)(fs:ByteArray->Int)(sts:List aP)(eds:List aC),bA (ahead (bC true) f st) m ls l=some r->s<sts.length->(∃x,sts[s]?=some x/\x.kind≠0)->(∀t,bW st t=true->0<=fs t/\fs t<(sts.length:Int))->Gd st fs sts eds (dy (wv f) (s:Int) m l ⟨sts,eds,fs⟩).2
 |0,ls,l,r,fs,sts,eds,h,_,_,_=>⟨⟨[],by simp[dy],by simp⟩,⟨[],by simp[dy],by simp⟩,fun _ _=>rfl⟩|m+1,ls,[],r,fs,sts,eds,h,_,_,_=>by cases h|m+1,ls,c::l,r,fs,sts,eds,h,hs,hk,j=>by
  rw[bA]at h;split at h;·
   rename_i R;simp only[Bool.and_eq_true,Bool.not_eq_true']at R;obtain⟨hn,ac⟩:=FP R.1;split at h;·cases h
   ·rename_i r1 U;have ab:Ip st l fs sts.length:=⟨fun t I=>j t (jS st C t I),fun _ t I=>⟨(j t I).1,by have:=(j t I).2;omega⟩⟩;obtain⟨g1,i0,i1⟩:=hf st l r1 fs sts eds U C ab;have e1:=(uX f st l r1 ⟨sts,eds,fs⟩ U).1;have hz:=g1.more;rw[dy,e1];obtain⟨o,ho⟩:∃o,(wv f l ⟨sts,eds,fs⟩).2.2=o:=⟨_,rfl⟩;obtain⟨i,hi⟩:∃i,(wv f l ⟨sts,eds,fs⟩).1=i:=⟨_,rfl⟩;rw[ho]at g1 i1 hz|-;rw[hi]at i0 i1|-;obtain⟨sN,es,ks⟩:=g1.sts;have T:∃x,o.sts[s]?=some x/\x.kind≠0:=by obtain⟨x,hx,J⟩:=hk;exact⟨x,by rw[es,List.getElem?_append_left hs];exact hx,J⟩
    have g2:=Ai hf st C s m (ls++[c.name]) r1 r o.fs o.sts (o.eds++[⟨(s:Int),c.name,c.sort,i⟩]) h (by omega) T (fun t I=>by rw[g1.fs t I];have:=j t I;omega);refine g1.trans ⟨g2.sts,?_,g2.fs⟩;obtain⟨eN,f2,k2⟩:=g2.eds;refine⟨[⟨(s:Int),c.name,c.sort,i⟩]++eN,by rw[f2,List.append_assoc],fun e P=>?_⟩;rcases List.mem_append.1 P with P|P;·obtain⟨s2,e2,-⟩:=g2.sts;simp at P;subst P;rw[e2];refine A5.more ⟨by show(0:Int)<=(s:Int);omega,by show(s:Int)<_;omega,i0,i1,hn,ac,?_⟩ s2;obtain⟨x,hx,J⟩:=T;exact⟨x,by simpa[ZW]using hx,J⟩
    ·exact k2 e P
  ·cases h
theorem Ha{n:Nd}(h:bC true n=true):(n.op=5\/n.op=6)/\ct n.peer=true:=by simp only[bC,Bool.and_eq_true,if_true]at h;obtain⟨⟨⟨j,-⟩,-⟩,-,l⟩:=h;refine⟨by simpa[ZW]using l,?_⟩;simp only[cX,Bool.and_eq_true]at j;exact j.1
theorem Ab{st:List Nd}{fs:ByteArray->Int}{sts:List aP}{eds:List aC}:Gd st fs sts eds ⟨sts,eds,fs⟩:=⟨⟨[],by simp,by simp⟩,⟨[],by simp,by simp⟩,fun _ _=>rfl⟩
theorem rE{st:List Nd}{fs:ByteArray->Int}{sts:List aP}{eds:List aC}{x:aP}(h:lu x=true):Gd st fs sts eds ⟨sts++[x],eds,fs⟩:=⟨⟨[x],rfl,by simpa[ZW]using h⟩,⟨[],by simp,by simp⟩,fun _ _=>rfl⟩
theorem uP{n:Nd}(h:iu n=true):lu ⟨eF n.op,n.peer⟩=true/\n.many.toNat=0:=by simp only[iu,Bool.and_eq_true,beq_iff_eq]at h;obtain⟨⟨⟨⟨j,-⟩,l⟩,C⟩,-⟩:=h;refine⟨?_,by rw[C];rfl⟩;rw[j];show(if(eF 0==0)=true then n.peer.toList==[]else _)=true;rw[if_pos (by decide),l];rfl
theorem Kq:∀f:Nat,KB f:=by
 intro f;induction f with
  |zero=>
   intro st l r fs sts eds h U J;cases l with
    |nil=>cases h|cons n l=>
     rw[wv];by_cases R:(n.op==1)=true;·
      rw[if_pos R];rw[dv (by simpa[ZW]using R)]at h;split at h;·rename_i I;simp only[Bool.and_eq_true]at I;have:=J.said _ I.2;exact⟨Ab,this.1,this.2⟩
      ·cases h
     ·rw[if_neg R];by_cases h0:n.op=0;·
       rw[da h0]at h;split at h;·rename_i I;exact⟨rE (uP I).1,by show(0:Int)<=(sts.length:Int);omega,by show(sts.length:Int)<((sts++[_]).length:Int);rw[List.length_append,List.length_singleton];omega⟩
       ·cases h
      ·rw[fm h0 (by simpa[ZW]using R)]at h;cases h
  |succ f ih=>
   intro st l r fs sts eds h U J;cases l with
    |nil=>cases h|cons n l=>
     rw[wv];by_cases R:(n.op==1)=true;·
      rw[if_pos R];rw[dv (by simpa[ZW]using R)]at h;split at h;·rename_i I;simp only[Bool.and_eq_true]at I;have:=J.said _ I.2;exact⟨Ab,this.1,this.2⟩
      ·cases h
     ·rw[if_neg R];by_cases T:(n.op==2)=true;·
       rw[if_pos T];have ab:n.op=2:=by simpa[ZW]using T
       rw[dC ab]at h;split at h;·
        rename_i I;simp only[Bool.and_eq_true,Bool.not_eq_true']at I;have ad:=I.2;have P:jm (n::st):=⟨.inr ⟨ab,by rw[<-fY];exact ad⟩,U⟩;have ac:fH (n::l)=fH l:=by rw[fH,if_neg (by rw[ab];decide),if_pos T]
        have af:Ip (n::st) l (fun x=>if x=n.name then(sts.length:Int)else fs x) sts.length:=by
         refine⟨fun t j=>?_,fun hc t j=>?_⟩;·
          rw[eR,if_pos T]at j;split at j;·cases j
          ·have hw:=jS st U t j;have C:t≠n.name:=fun e=>by rw[e,ad]at hw;cases hw
           show 0<=(if t=n.name then(sts.length:Int)else fs t)/\(if t=n.name then(sts.length:Int)else fs t)<_;rw[if_neg C];exact J.said t j
         ·show 0<=(if t=n.name then(sts.length:Int)else fs t)/\(if t=n.name then(sts.length:Int)else fs t)<=_;by_cases C:t=n.name;·rw[if_pos C];omega
          ·rw[if_neg C];have hw:bW st t=true:=by
            rw[bW,List.any_cons,Bool.or_eq_true]at j;rcases j with j|j;·simp only[Bool.and_eq_true]at j;exact absurd (gj.1 j.2).symm C
            ·exact j
           exact J.open_ (by rw[ac];exact hc) t hw
        obtain⟨g,i0,i1⟩:=ih (n::st) l r _ sts eds h P af;refine⟨⟨g.sts,g.eds,fun t j=>?_⟩,i0,i1⟩;have C:t≠n.name:=fun e=>by rw[e,ad]at j;cases j
        have:=g.fs t (by rw[bW,List.any_cons];rw[bW]at j;rw[j];simp);rw[this];show(if t=n.name then _ else fs t)=_;rw[if_neg C]
       ·cases h
      ·rw[if_neg T];have al:∀t,bW (n::st) t=bW st t:=fun t=>by rw[bW,List.any_cons,Bool.eq_false_iff.2 T];simp[bW]
       have ac:fH (n::l)=false:=by rw[fH,if_neg R,if_neg T]
       by_cases h0:n.op=0;·
        rw[da h0]at h;split at h;·rename_i I;rw[(uP I).2,dy];exact⟨rE (uP I).1,by show(0:Int)<=(sts.length:Int);omega,by show(sts.length:Int)<((sts++[_]).length:Int);rw[List.length_append,List.length_singleton];omega⟩
        ·cases h
       ·rw[fA h0 (by simpa[ZW]using R) (by simpa[ZW]using T)]at h;split at h;·
         rename_i hT;obtain⟨ah,ao⟩:=Ha hT;have P:jm (n::st):=⟨.inl (by simpa[ZW]using T),U⟩;have aq:(sts++[(⟨eF n.op,n.peer⟩:aP)]).length=sts.length+1:=by simp
         have hm:lu ⟨eF n.op,n.peer⟩=true:=by rcases ah with e|e<;>rw[e]<;>simp[lu,eF,ao,iN]
         have an:(eF n.op)≠0:=by rcases ah with e|e<;>rw[e]<;>decide
         have g:=Ai ih (n::st) P sts.length n.many.toNat [] l r fs (sts++[⟨eF n.op,n.peer⟩]) eds h (by omega) ⟨⟨eF n.op,n.peer⟩,by simp,an⟩ (fun t j=>by have:=J.open_ ac t (by rw[<-al];exact j);omega);have g':=Gd.trans (rE (st:=st) (fs:=fs) (sts:=sts) (eds:=eds) hm) ⟨g.sts,g.eds,fun t j=>g.fs t (by rw[al];exact j)⟩;have:=g.more;exact⟨g',by show(0:Int)<=(sts.length:Int);omega,by show(sts.length:Int)<_;simp only at this|-;omega⟩
        ·cases h
theorem CF{l:List aC}(j:Up l)(C:l.Pairwise fun a b=>¬(a.src=b.src/\a.label=b.label)):l.Pairwise fun a b=>bS a b=true:=by refine(j.and C).imp ?_;rintro a b⟨h,J⟩;cases I:bS a b with|true=>rfl|false=>exact absurd (ru I h) J
theorem yM{ns:List Nd}(h:cE true ns=true):cG (jP ns)=true:=by
 obtain⟨ha,aN⟩:=jw h;have ad:Inv [] ns (fun _=>0) [] []:=⟨rfl,rfl,(fun t U=>by cases U),(fun _ t U=>by cases U)⟩;obtain⟨e1,new,aL,az,I,ho,hq,av,_,_⟩:=Il 10 [] ns [] (fun _=>0) [] [] [] [] [] ha trivial ad;obtain⟨C,aM,l,i,aq,_,hn⟩:=Ef 10 [] ns [] (fun _=>0) [] [] ha;obtain⟨g,i0,i1⟩:=Kq 10 [] ns [] (fun _=>0) [] [] ha trivial ⟨fun t U=>(by cases U),fun _ t U=>(by cases U)⟩;obtain⟨-,gl⟩:=uX 10 [] ns [] ⟨[],[],fun _=>0⟩ ha;have ab:=gl.sts;have R:=gl.eds;rw[aq]at ho g i0 i1 ab R e1;simp only[List.nil_append,Prod.mk.injEq,Wv.mk.injEq,true_and]at ho;obtain⟨rfl,rfl,rfl⟩:=ho;simp only[List.length_nil,Nat.add_zero,Nat.zero_add]at ab R i0 i1 e1;obtain⟨sN,es,ks⟩:=g.sts;obtain⟨eN,ee,ke⟩:=g.eds;simp only[List.nil_append]at es ee;rw[<-es]at ks;rw[<-ee]at ke;have ax:Up I:=by
  have:=Ij 10 [] [] ns ([],[]) (List.Pairwise.nil);have e:(sv 10 [] [] ns ([],[])).2.2=I:=by rw[hq]
  rwa[e]at this
 have J:I.Perm C:=by simpa[ZW]using av
 have ah:=CF ax (hn.two.perm J.symm (fun h hk=>h ⟨hk.1.symm,hk.2.symm⟩));have hM:jP ns=⟨l,I,i⟩:=by unfold jP;rw[show Ih ns=([],l,I)from hq,e1];rfl
 have ay:I.length=C.length:=J.length_eq;have ao:([]++C:List aC).length=C.length:=by simp
 rw[hM];unfold cG;simp only[Bool.and_eq_true];refine⟨?_,List.all_eq_true.2 ks,List.all_eq_true.2 fun j hj=>?_⟩;·unfold mC;simp only[iN,Bool.and_eq_true,decide_eq_true_eq];have ac:=R;rw[ao]at ac;refine⟨⟨by omega,by omega⟩,by omega,i0,by omega⟩
 ·have T:j<I.length:=by simpa[ZW]using hj
  have al:∀e∈I,A5 l e:=fun e he=>ke e (J.mem_iff.1 he);have af:∀e∈I,tj ⟨l,I,i⟩ e=true:=fun e he=>by
   have P:=al e he;obtain⟨x,hx,hk⟩:=P.kd;have a1:=P.s0;have a2:=P.s1;have a3:=P.d0;have a4:=P.d1;have an:pj ⟨l,I,i⟩ e.src=x.kind:=by unfold pj;rw[hx]
   unfold tj;rw[P.nm,an];simp only[iN,Bool.and_eq_true,decide_eq_true_eq,Bool.not_eq_true',beq_eq_false_iff_ne];exact⟨⟨a1,by omega⟩,⟨a3,by omega⟩,trivial,⟨P.so.1,P.so.2⟩,hk⟩
  unfold gT;rw[List.getElem?_eq_getElem T];simp only[Bool.and_eq_true];refine⟨af _ (List.getElem_mem T),?_⟩;cases j with|zero=>rfl|succ j=>simp only[Nat.add_sub_cancel];rw[List.getElem?_eq_getElem (by omega)];exact(List.pairwise_iff_getElem.1 ah) j (j+1) (by omega) T (by omega)
section
attribute [local go_sem ↓] Go.wp_at_zero Go.wp_at_succ
theorem I1{w:World}{B:Nat}{v:Value}{all:List Nd}(o:Obj)(j:B<=w.heap.size)(l:bF w B v all):dA ((w.alloc o).alloc (.cells #[v,.slice none 0 0,.slice none 0 0,.int .i64 0,.slice none 0 0,.slice none 0 0] 283)) (w.heap.size+1) B (w.heap.size+2) v (.slice none 0 0) (.slice none 0 0) 0 (.slice none 0 0) (.slice none 0 0) all [] [] [] []:=by refine⟨?_,l.carry (((ag w o).trans ((ag _ _).mono (by simp))).mono j),cF.nil _ _,bD.nil _ _,dd _ _ _ _,dd _ _ _ _,by constructor<;>simp[ae,aJ],⟨by omega,by omega⟩,by simp⟩;have:=aV.new (w.alloc o) [v,.slice none 0 0,.slice none 0 0,.int .i64 0,.slice none 0 0,.slice none 0 0] 283;simpa[ZW]using this
theorem Ea{w:World}{xb B base:Nat}{v sv ev nv fv:Value}{z:Int}{all:List Nd}{sts:List aP}{eds:List aC}{ns:List ByteArray}{fis:List Int}(h:dA w xb B base v sv ev z nv fv all sts eds ns fis)(x:Int):dA (w.setCell ⟨xb,3,none⟩ (.int .i64 x)) xb B base v sv ev x nv fv all sts eds ns fis/\eW w (w.setCell ⟨xb,3,none⟩ (.int .i64 x)) base xb:=by
 have C:=h.low;have j:=aG w xb 3 (.int .i64 x);have I:=j.js h.sz (xb:=xb) (fun b l=>by simp at l;exact .inl l);have off:∀{u:Value},dk base w u->∀b∈ae u,b∉[xb]:=fun hd b l J=>by simp at J;have:=hd.lo b l;omega
 exact⟨⟨h.box.set 3 (by simp) _,I.sl C.1 C.2 h.sl,h.st.aA j (off h.st.fresh),h.ed.aA j (off h.ed.fresh),aK h.nm j (off (ak h.nm)),aK h.fi j (off (ak h.fi)),h.four,C,Nat.le_trans h.sz j.size⟩,I⟩
structure Hl(w w':World)(e:Ending)(m:cj):Prop where
 JA:∃sv ev,e=.returned (.agg #[sv,ev,.int .i64 m.start])/\cF w' w.heap.size sv m.ai/\bD w' w.heap.size ev m.aI/\(∀b∈ae sv,b∉ae ev)
 bel:ZW w w'
theorem ub{w w3:World}{l C:Obj}(h:eW ((w.alloc l).alloc C) w3 (w.heap.size+2) (w.heap.size+1)):ZW w w3:=have I:ZW w ((w.alloc l).alloc C):=(ag _ _).trans ((ag _ _).mono (by simp));⟨h.os,h.tape,h.output,by have:=h.size;simp at this;omega,fun b j=>(h.block b (by omega) (by omega)).trans (I.block b j)⟩
theorem GU(ns:List Nd)(v:Value)(w:World)(T:ahead (bC true) 10 [] ns=some [])(ay:ns.length<=40)(hv:bF w w.heap.size v ns):Calls Tryz.prog 201 #[v] w fun e w'=>Hl w w' e (jP ns):=by
 have av:0<ns.length:=by cases ns with|nil=>cases T|cons=>simp
 have aq:¬(∀n∈ns.drop 0,n.op=2):=by rw[List.drop_zero];exact jI _ _ _ _ T
 obtain⟨fst,I⟩:∃x,bK [] [] 0 ns=x:=⟨_,rfl⟩;have an:Hid (jP ns=⟨(Ih ns).2.1,(Ih ns).2.2,fst⟩):=aa (by rw[<-I];rfl);have af:Hid (∀(W:World)(xb B base:Nat),dA W xb B base v (.slice none 0 0) (.slice none 0 0) 0 (.slice none 0 0) (.slice none 0 0) ns [] [] [] []->Calls Tryz.prog 238 #[.pointer (some ⟨xb,0,none⟩),.int .i64 0] W fun e w'=>e=.returned (.int .i64 fst)/\ZW W w'):=aa (fun W xb B base hW=>by have:=lH ns [] [] rfl (by simp) (by omega) _ 0 xb W.heap.size W rfl aq hW.Dt (Nat.le_refl _);rw[List.drop_zero]at this;rw[show((jn ns 0:Nat):Int)=0 by simp[jn],I]at this;exact this);have al:Hid (∀(W:World)(xb B base:Nat),dA W xb B base v (.slice none 0 0) (.slice none 0 0) fst (.slice none 0 0) (.slice none 0 0) ns [] [] [] []->Calls Tryz.prog 239 #[.pointer (some ⟨xb,0,none⟩),.int .i64 0] W fun e w'=>Made W w' xb B base v fst (dB (.slice none 0 0) (.slice none 0 0) (.slice none 0 0) (.slice none 0 0)) ns [] [] e (Ih ns)):=aa (fun W xb B base hW=>by have:=yN 10 [] ns [] 0 W xb B base v _ _ fst _ _ [] [] [] [] (by rw[List.drop_zero];exact T) ay av rfl (by simp) (by simp[jn]) (by simp;omega) hW;rw[List.drop_zero]at this;exact this);have C:Hid (∀o:Obj,dA ((w.alloc o).alloc (.cells #[v,.slice none 0 0,.slice none 0 0,.int .i64 0,.slice none 0 0,.slice none 0 0] 283)) (w.heap.size+1) w.heap.size (w.heap.size+2) v (.slice none 0 0) (.slice none 0 0) 0 (.slice none 0 0) (.slice none 0 0) ns [] [] [] []):=aa (fun o=>I1 o (Nat.le_refl _) hv);have ax:Hid (∀(o2:Obj)(J:World),eW ((w.alloc (.cells #[.slice none 0 0,.slice none 0 0,.int .i64 0] 66)).alloc o2) J (w.heap.size+2) (w.heap.size+1)->aV J w.heap.size [.slice none 0 0,.slice none 0 0,.int .i64 0]):=aa (fun o2 J hk=>by have h0:aV ((w.alloc (.cells #[.slice none 0 0,.slice none 0 0,.int .i64 0] 66)).alloc o2) w.heap.size [.slice none 0 0,.slice none 0 0,.int .i64 0]:=(aV.new w [.slice none 0 0,.slice none 0 0,.int .i64 0] 66).aA (aj (ag _ _)) (by simp);have hb:=hk.block w.heap.size (by omega) (by omega);exact⟨fun i v hv=>(World.cell?_of_block (a:=⟨w.heap.size,i,none⟩) hb).trans (h0.cell i v hv),fun o=>(World.frozen?_of_block (a:=⟨w.heap.size,o,none⟩) hb).trans (h0.fz o),Nat.lt_of_lt_of_le h0.lt hk.size⟩);obtain⟨O,hO⟩:∃O,Ih ns=O:=⟨_,rfl⟩;rw[hO]at al an;obtain⟨ao,cap,rfl,hc,hm,hr⟩:=hv;clear hr aq I hO T;go_in;go_wp2_with(first|(go_at_call 239;refine(al.out _ _ _ _ P.out.1).mono ?_;rintro e J⟨aN,az,aM,aL,rfl,j,ad,-⟩;obtain⟨ps,cs,rfl⟩:=ar j.st;obtain⟨pe,ce,rfl⟩:=ar j.ed;have l:=aa j;have ah:=aa ad;have y1:=j.box.cell 1 _ rfl;have y2:=j.box.cell 2 _ rfl;have y3:=j.box.cell 3 _ rfl;have R:=aa (show aV J w.heap.size [.slice none 0 0,.slice none 0 0,.int .i64 0]from ax.out _ J ((U.out.trans P.out.2).trans ad));have r0:=R.out.cell 0 _ rfl;have r1:=R.out.cell 1 _ rfl;have r2:=R.out.cell 2 _ rfl;have rz:=R.out.fz;clear j ad)|(go_at_call 238;refine(af.out _ _ _ _ (C.out _)).mono ?_;rintro e w2⟨rfl,ac⟩;have ab:=aa ((C.out _).tJ (jj.dx ac));have U:=aa ((jj.dx ac).ap.js (C.out _).sz (xb:=w.heap.size+1) (by simp));have P:=aa (Ea ab.out fst);have x3:=ab.out.box.cell 3 _ rfl;have xz:=ab.out.box.fz;clear ac));refine bodyPost_ret (v:=.agg #[.slice ps O.2.1.length cs,.slice pe O.2.2.length ce,.int .i64 fst]) (by simp[results,Tryz.results201,go_sem,r0,r1,r2]) rfl ?_;rw[an.out];have hA:aH J (((J.setCell ⟨w.heap.size,0,none⟩ (.slice ps O.2.1.length cs)).setCell ⟨w.heap.size,1,none⟩ (.slice pe O.2.2.length ce)).setCell ⟨w.heap.size,2,none⟩ (.int .i64 fst)) [w.heap.size]:=((aG J w.heap.size 0 _).setCell 1 _).setCell 2 (.int .i64 fst);have off:∀{u:Value},dk (w.heap.size+2) J u->∀b∈ae u,b∉[w.heap.size]:=fun hd b hb hm=>by simp at hm;have:=hd.lo b hb;omega
 exact⟨⟨_,_,rfl,bH (l.out.st.aA hA (off l.out.st.fresh)) (by omega),bH (l.out.ed.aA hA (off l.out.ed.fresh)) (by omega),l.out.four.se⟩,(ub ((U.out.trans P.out.2).trans ah.out)).trans (hA.below (ub ((U.out.trans P.out.2).trans ah.out)).size (by simp))⟩
end
