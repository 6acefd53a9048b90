import Derived.Test.YtdiiiijkhpdcbaaGreatDoorRV19
import Derived.Test.YtdiiiijkhpdcbaaGreatDoorRV13
import Derived.Test.YtdiiiijkhpdcbaaGreatDoorRV16
import Derived.Test.YtdiiiijkhpdcbaaGreatDoorRV11
namespace Go.Proofs.YtdiiiijkhpdcbaaGreatDoor
open Go.RowKit
set_option linter.unusedSimpArgs false
set_option linter.unusedVariables false
set_option maxHeartbeats 1000000
set_option maxRecDepth 100000
def ff(w:World)(v:Value)(ls:List ByteArray):Prop:=∃b o cap,v=.slice (some ⟨b,o,none⟩) ls.length cap/\ls.length<=cap/\cap<=maxLen/\∀i(h:i<ls.length),w.cell? ⟨b,o+i,none⟩=some (.string ls[i])
def iy(s t:ByteArray):Bool:=Op.bytesLess s.toList t.toList
def gT:List ByteArray->ByteArray->Nat|[],_=>0|s::ls,t=>if iy s t then gT ls t+1 else 0
def dg(ls:List ByteArray)(t:ByteArray):List ByteArray:=if cw ((ls.drop (gT ls t)).take 1) t then ls else ls.take (gT ls t)++[t]++ls.drop (gT ls t)
theorem si:∀(ls:List ByteArray)(t:ByteArray)(k:Nat),k<=ls.length->(∀j(h:j<ls.length),j<k->iy ls[j] t=true)->(∀h:k<ls.length,iy ls[k] t=false)->gT ls t=k|[],t,k,l,_,_=>by simp at l;subst l;rfl|s::ls,t,0,_,_,h2=>by have:=h2 (by simp);simp at this;simp[gT,this]|s::ls,t,k+1,l,I,h2=>by have C:=I 0 (by simp) (by omega);simp at C;have ih:=si ls t k (by simpa using l) (fun j h J=>by have:=I (j+1) (by simpa using h) (by omega);simpa using this) (fun h=>by have:=h2 (by simpa using h);simpa using this);rw[gT,if_pos C,ih]
theorem Eg{ls:List ByteArray}{t:ByteArray}{k:Nat}(C:gT ls t=k)(l:k<ls.length)(j:(ls[k].toList==t.toList)=true):dg ls t=ls:=by
 have e:(ls.drop k).take 1=[ls[k]]:=by rw[List.drop_eq_getElem_cons l];rfl
 rw[dg,C,e,if_pos];simp only[cw,List.any_cons,List.any_nil,Bool.or_false];exact j
theorem Aj{ls:List ByteArray}{t:ByteArray}{k:Nat}(C:gT ls t=k)(l:∀j:k<ls.length,(ls[k].toList==t.toList)=false):dg ls t=ls.take k++[t]++ls.drop k:=by
 rw[dg,C,if_neg];by_cases j:k<ls.length;·
  have e:(ls.drop k).take 1=[ls[k]]:=by rw[List.drop_eq_getElem_cons j];rfl
  rw[e];simp only[cw,List.any_cons,List.any_nil,Bool.or_false,l j];decide
 ·rw[List.drop_of_length_le (by omega)];simp[cw]
theorem kU{w:World}{base e:Nat}{v:Value}{ls:List ByteArray}(h:w.ownsRow base e 1 v ls.length (ls.map Value.string))(J:ls≠[]):ff w v ls:=by
 obtain⟨_,hv⟩:=h;rcases hv with⟨rfl,P⟩|⟨g,cap,j,rfl,hg,T,U,C,ab,l⟩;·exact absurd (List.length_eq_zero_iff.1 P) J
 ·refine⟨g,0,cap,rfl,U,C,fun i hi=>?_⟩;have R:j.toList[i]?=some (.string ls[i]):=by
   have I:(j.toList.take (ls.length*1))[i]?=(ls.map Value.string)[i]?:=by rw[l]
   rw[List.getElem?_take,if_pos (by omega)]at I;rw[I];simp[hi]
  have I:j[i]?=some (.string ls[i]):=by rw[<-R];simp
  simp only[World.cell?,T];simpa using I
theorem Ao(ls:List ByteArray)(t:ByteArray)(v:Value)(w:World)(hv:ff w v ls)(hl:ls.length<=100):Calls Tryz.prog 124 #[v,.string t] w fun e w'=>∃v',e=.returned v'/\ff w' v' (dg ls t)/\Below w.heap.size w w':=by
 have HV:=aa hv;obtain⟨b,o,cap,rfl,hc,hm,aq⟩:=hv;obtain⟨i0,hi,a2,ao,af⟩:=info_parts Tryz.my;have P:=aa (And.intro hi (And.intro a2 (And.intro ao af)));have HC:=aa aq;have HM:=aa hm;clear aq hm hi a2 ao af;go_enter Tryz.func124,Tryz.ntmps124;go_wp2_with fail;go_loop[5](fun i=>∃k:Nat,k<=ls.length/\i=.int .i64 k/\∀j(h:j<ls.length),j<k->iy ls[j] t=true)(fun i=>ls.length-(intOf i).toNat);case atStart=>exact⟨0,Nat.zero_le _,rfl,fun j _ h=>absurd h (by omega)⟩
 case round=>
  obtain⟨k,hk,rfl,aN⟩:=hrel;have HA:=aa aN;clear aN;by_cases aM:k<ls.length;·
   have a4:=HC.out k aM;obtain⟨s,hs⟩:∃s,s=ls[k]:=⟨_,rfl⟩;rw[<-hs]at a4;have aL:=aa hs;clear hs;cases av:Op.bytesLess s.toList t.toList;·
    have a0:=aa (show iy ls[k] t=false by rw[<-aL.out];exact av);have ay:=aa (si ls t k hk HA.out (fun _=>a0.out));cases heq:(s.toList==t.toList);·
     have az:=aa (Aj ay.out (fun _=>by rw[<-aL.out];exact heq));have ah:Hid (∀W',Below w.heap.size w W'->∀j u,((ls.take k).map Value.string)[j]?=some u->W'.cell? ((⟨b,o,none⟩:Addr).add j)=some u):=aa (fun W' hb j u h=>l9 (ls:=ls.take k) (fun i hi=>by rw[List.getElem_take];exact HC.out i (by simp at hi;omega)) hb j u h);by_cases aR:cap=k;·exfalso;omega
     ·have a1:Hid (∀W',Below w.heap.size w W'->∀j u,((ls.drop k).map Value.string)[j]?=some u->W'.cell? ((⟨b,o+k,none⟩:Addr).add j)=some u):=aa (fun W' hb j u h=>l9 (ls:=ls.drop k) (fun i hi=>by rw[List.getElem_drop,Nat.add_assoc];exact HC.out (k+i) (by simp at hi;omega)) hb j u h);go_wp2_with(first|(at_builtin;refine wpList_append_own _ rfl (.tmp 34) (.tmp 37) 42 rfl w.heap.size 9 i0 (.string ByteArray.empty) 1 16 Tryz.underlying42 P.out.1 P.out.2.1 P.out.2.2.1 P.out.2.2.2 rfl (by decide) (.slice (some ⟨w.heap.size,0,none⟩) 0 0) 0 [] rfl (iZ _ _ _ _ (Nat.le_refl _) (ga _ _ _ rfl)) ⟨b,o,none⟩ k cap ((ls.take k).map Value.string) rfl (by first|(simp;done)|(simp;omega)) (ah.out _ (aO _ _)) (kq _) (by unfold maxLen;omega) (by omega) (by simp) ?_;intro v1 w1 l C _;simp only[Nat.zero_add,List.nil_append]at l;have ac:=aa l;have ab:Hid (Below w.heap.size w w1):=aa ((aO _ _).grown C (by simp) (by intro k hk;simp[Value.ownBlock]at hk;omega));have ao:w.heap.size<=w1.heap.size:=ab.out.size;clear l C)|(at_builtin;refine wpList_append_own _ rfl (.tmp 39) (.tmp 41) 42 rfl w.heap.size 9 i0 (.string ByteArray.empty) 1 16 Tryz.underlying42 P.out.1 P.out.2.1 P.out.2.2.1 P.out.2.2.2 rfl (by decide) v1 k ((ls.take k).map Value.string) rfl (ac.out.alloc _) ⟨w1.heap.size,0,none⟩ 1 1 [.string t] rfl rfl (lW (eT _ _ _ _ rfl)) (one_cell _) (by unfold maxLen;omega) (by omega) (by first|(simp;done)|(simp;omega)) ?_;intro v2 w2 R I _;have ad:=aa R;have U:Hid (Below w.heap.size w w2):=aa ((ab.out.alloc ao _).grown I (by first|(simp;done)|(simp;omega)) (gQ ac.out));have af:w.heap.size<=w2.heap.size:=U.out.size;clear R I)|(at_builtin;refine wpList_append_own _ rfl (.tmp 43) (.tmp 46) 42 rfl w.heap.size 9 i0 (.string ByteArray.empty) 1 16 Tryz.underlying42 P.out.1 P.out.2.1 P.out.2.2.1 P.out.2.2.2 rfl (by decide) v2 (k+1) ((ls.take k).map Value.string++[.string t]) rfl ad.out ⟨b,o+k,none⟩ (ls.length-k) (cap-k) ((ls.drop k).map Value.string) rfl (by simp) (a1.out _ U.out) (kq _) (by unfold maxLen;omega) (by omega) af ?_;intro v3 w3 T J _;have an:=aa T;have al:Hid (Below w.heap.size w w3):=aa (U.out.grown J af (gQ ad.out));clear T J));go_ret;refine⟨_,rfl,?_,al.out⟩;rw[az.out];refine kU (base:=w.heap.size) (e:=9) ?_ (by simp);have:=an.out;have ax:k+1+(ls.length-k)=(ls.take k++[t]++ls.drop k).length:=by simp;omega
      rw[ax]at this;simpa using this
    ·have a3:=aa (Eg ay.out aM (by rw[<-aL.out];exact heq));go_wp2_with fail;go_ret;exact⟨_,rfl,by rw[a3.out];exact HV.out,Below.refl _ _⟩
   ·have a0:=aa (show iy ls[k] t=true by rw[<-aL.out];exact av);go_wp2_with fail;go_round;case rel=>
     exact⟨k+1,by omega,by go_num,fun j h hj=>by
      rcases Nat.lt_or_ge j k with h1|h1;·exact HA.out j h h1
      ·have:j=k:=by omega
       subst this;exact a0.out⟩
    case measure=>simp[intOf];omega
  ·have ay:=aa (si ls t k hk HA.out (fun h=>absurd h aM));have az:=aa (Aj ay.out (fun h=>absurd h aM));obtain rfl:k=ls.length:=by omega
   have ah:Hid (∀W',Below w.heap.size w W'->∀j u,((ls.take ls.length).map Value.string)[j]?=some u->W'.cell? ((⟨b,o,none⟩:Addr).add j)=some u):=aa (fun W' hb j u h=>l9 (ls:=ls.take ls.length) (fun i hi=>by rw[List.getElem_take];exact HC.out i (by simp at hi;omega)) hb j u h);by_cases aR:cap=ls.length;·
    subst aR;go_wp2_with(first|(at_builtin;refine wpList_append_own _ rfl (.tmp 34) (.tmp 37) 42 rfl w.heap.size 9 i0 (.string ByteArray.empty) 1 16 Tryz.underlying42 P.out.1 P.out.2.1 P.out.2.2.1 P.out.2.2.2 rfl (by decide) (.slice (some ⟨w.heap.size,0,none⟩) 0 0) 0 [] rfl (iZ _ _ _ _ (Nat.le_refl _) (ga _ _ _ rfl)) ⟨b,o,none⟩ ls.length ls.length ((ls.take ls.length).map Value.string) rfl (by first|(simp;done)|(simp;omega)) (ah.out _ (aO _ _)) (kq _) (by unfold maxLen;omega) (by omega) (by simp) ?_;intro v1 w1 l C _;simp only[Nat.zero_add,List.nil_append]at l;have ac:=aa l;have ab:Hid (Below w.heap.size w w1):=aa ((aO _ _).grown C (by simp) (by intro k hk;simp[Value.ownBlock]at hk;omega));have ao:w.heap.size<=w1.heap.size:=ab.out.size;clear l C)|(at_builtin;refine wpList_append_own _ rfl (.tmp 39) (.tmp 41) 42 rfl w.heap.size 9 i0 (.string ByteArray.empty) 1 16 Tryz.underlying42 P.out.1 P.out.2.1 P.out.2.2.1 P.out.2.2.2 rfl (by decide) v1 ls.length ((ls.take ls.length).map Value.string) rfl (ac.out.alloc _) ⟨w1.heap.size,0,none⟩ 1 1 [.string t] rfl rfl (lW (eT _ _ _ _ rfl)) (one_cell _) (by unfold maxLen;omega) (by omega) (by first|(simp;done)|(simp;omega)) ?_;intro v2 w2 R I _;have ad:=aa R;have U:Hid (Below w.heap.size w w2):=aa ((ab.out.alloc ao _).grown I (by first|(simp;done)|(simp;omega)) (gQ ac.out));have af:w.heap.size<=w2.heap.size:=U.out.size;clear R I)|(at_builtin;refine wpList_append_own _ rfl (.tmp 43) (.tmp 46) 42 rfl w.heap.size 9 i0 (.string ByteArray.empty) 1 16 Tryz.underlying42 P.out.1 P.out.2.1 P.out.2.2.1 P.out.2.2.2 rfl (by decide) v2 (ls.length+1) ((ls.take ls.length).map Value.string++[.string t]) rfl ad.out ⟨b,o,none⟩ 0 0 [] rfl rfl (fun j u h=>by simp at h) (fun u h=>by simp at h) (by unfold maxLen;omega) (by omega) af ?_;intro v3 w3 T J _;have an:=aa T;have al:Hid (Below w.heap.size w w3):=aa (U.out.grown J af (gQ ad.out));clear T J));go_ret;refine⟨_,rfl,?_,al.out⟩;rw[az.out];refine kU (base:=w.heap.size) (e:=9) ?_ (by simp);have:=an.out;have ax:ls.length+1+0=(ls.take ls.length++[t]++ls.drop ls.length).length:=by simp
    rw[ax]at this;simpa using this
   ·go_wp2_with(first|(at_builtin;refine wpList_append_own _ rfl (.tmp 34) (.tmp 37) 42 rfl w.heap.size 9 i0 (.string ByteArray.empty) 1 16 Tryz.underlying42 P.out.1 P.out.2.1 P.out.2.2.1 P.out.2.2.2 rfl (by decide) (.slice (some ⟨w.heap.size,0,none⟩) 0 0) 0 [] rfl (iZ _ _ _ _ (Nat.le_refl _) (ga _ _ _ rfl)) ⟨b,o,none⟩ ls.length cap ((ls.take ls.length).map Value.string) rfl (by first|(simp;done)|(simp;omega)) (ah.out _ (aO _ _)) (kq _) (by unfold maxLen;omega) (by omega) (by simp) ?_;intro v1 w1 l C _;simp only[Nat.zero_add,List.nil_append]at l;have ac:=aa l;have ab:Hid (Below w.heap.size w w1):=aa ((aO _ _).grown C (by simp) (by intro k hk;simp[Value.ownBlock]at hk;omega));have ao:w.heap.size<=w1.heap.size:=ab.out.size;clear l C)|(at_builtin;refine wpList_append_own _ rfl (.tmp 39) (.tmp 41) 42 rfl w.heap.size 9 i0 (.string ByteArray.empty) 1 16 Tryz.underlying42 P.out.1 P.out.2.1 P.out.2.2.1 P.out.2.2.2 rfl (by decide) v1 ls.length ((ls.take ls.length).map Value.string) rfl (ac.out.alloc _) ⟨w1.heap.size,0,none⟩ 1 1 [.string t] rfl rfl (lW (eT _ _ _ _ rfl)) (one_cell _) (by unfold maxLen;omega) (by omega) (by first|(simp;done)|(simp;omega)) ?_;intro v2 w2 R I _;have ad:=aa R;have U:Hid (Below w.heap.size w w2):=aa ((ab.out.alloc ao _).grown I (by first|(simp;done)|(simp;omega)) (gQ ac.out));have af:w.heap.size<=w2.heap.size:=U.out.size;clear R I)|(at_builtin;refine wpList_append_own _ rfl (.tmp 43) (.tmp 46) 42 rfl w.heap.size 9 i0 (.string ByteArray.empty) 1 16 Tryz.underlying42 P.out.1 P.out.2.1 P.out.2.2.1 P.out.2.2.2 rfl (by decide) v2 (ls.length+1) ((ls.take ls.length).map Value.string++[.string t]) rfl ad.out ⟨b,o+ls.length,none⟩ 0 (cap-ls.length) [] rfl rfl (fun j u h=>by simp at h) (fun u h=>by simp at h) (by unfold maxLen;omega) (by omega) af ?_;intro v3 w3 T J _;have an:=aa T;have al:Hid (Below w.heap.size w w3):=aa (U.out.grown J af (gQ ad.out));clear T J));go_ret;refine⟨_,rfl,?_,al.out⟩;rw[az.out];refine kU (base:=w.heap.size) (e:=9) ?_ (by simp);have:=an.out;have ax:ls.length+1+0=(ls.take ls.length++[t]++ls.drop ls.length).length:=by simp
    rw[ax]at this;simpa using this
def fa(j:List ByteArray)(n:Nd):List ByteArray:=let a:=if n.op==3 then dg j n.name else j;if n.peer.toList==[]then a else dg a n.peer
def bc(ns:List Nd):List ByteArray:=ns.foldl fa []
theorem oB(ls:List ByteArray)(t:ByteArray):(dg ls t).length<=ls.length+1:=by
 rw[dg];split;·omega
 ·simp;omega
theorem yI{ns:List Nd}{k:Nat}(h:k<ns.length):(ns.take (k+1)).foldl fa []=fa ((ns.take k).foldl fa []) ns[k]:=by rw[List.take_succ_eq_append_getElem h,List.foldl_append];rfl
theorem ff.carry{w w':World}{v:Value}{ls:List ByteArray}(h:ff w v ls)(J:Below w.heap.size w w'):ff w' v ls:=by obtain⟨b,o,cap,l,C,I,j⟩:=h;exact⟨b,o,cap,l,C,I,fun i hi=>(J.cell (p:=⟨b,_,none⟩) (World.block_lt_of_cell? w _ (j i hi))).trans (j i hi)⟩
theorem vf(ns:List Nd)(v:Value)(w:World)(hv:bG w w.heap.size v ns)(hl:ns.length<=40):Calls Tryz.prog 68 #[v] w fun e w'=>∃v',e=.returned v'/\ff w' v' (bc ns)/\Below w.heap.size w w':=by
 obtain⟨ao,cap,rfl,hc,hm,hr⟩:=hv;have HR:=aa hr;clear hr;go_enter Tryz.func68,Tryz.ntmps68;go_wp2_with fail;go_loopw[3,4](fun out i wr=>∃k:Nat,k<=ns.length/\i=.int .i64 k/\ff wr out ((ns.take k).foldl fa [])/\((ns.take k).foldl fa []).length<=2*k/\Below w.heap.size w wr)(fun _ i _=>ns.length-(intOf i).toNat);case atStart=>exact⟨0,Nat.zero_le _,rfl,⟨w.heap.size,0,0,rfl,Nat.le_refl _,by unfold maxLen;omega,fun i h=>absurd h (by simp)⟩,by simp,aO _ _⟩
 case round=>
  obtain⟨k,hk,rfl,l,a8,af⟩:=hrel;obtain⟨j,ad⟩:∃j,j=(ns.take k).foldl fa []:=⟨_,rfl⟩;rw[<-ad]at l a8;have T:=aa ad;have ac:=aa l;have J:=aa af;have al:=af.size;clear ad af;obtain⟨b1,o1,bb,rfl,a2⟩:=l;clear a2;by_cases ay:k<ns.length;·
   obtain⟨b,o,rfl,a5,ax⟩:=HR.out (by intro h;simp[h]at ay);have P:=(ax.get k ay).carry a5 J.out;obtain⟨C,az⟩:∃C,C=ns[k]:=⟨_,rfl⟩;rw[<-az]at P;have HN:=aa (show(ns.take (k+1)).foldl fa []=fa j C by rw[yI ay,T.out,az]);have aM:=aa P;clear az ax;have aR:b<wr.heap.size:=P.lt;obtain⟨c0,c1,c2,c3,c4⟩:=P;obtain⟨aL,a0⟩:∃aL,(C.op==3)=aL:=⟨_,rfl⟩;obtain⟨pe,a6⟩:∃pe,(C.peer.toList==[])=pe:=⟨_,rfl⟩;have an:=aa a0;have aq:=aa a6;cases aL;·
    cases pe;·
     go_wp2_with(go_at_call 124;refine(Ao j C.peer _ _ ac.out (by omega)).mono ?_;rintro e w1⟨v1,rfl,R,I⟩;have ab:=aa R;obtain⟨b2,o2,av,rfl,ah⟩:=R;have U:=aa I;clear ah I);go_roundw;case rel=>
      have l:fa j C=dg j C.peer:=by simp[fa,an.out,aq.out]
      refine⟨k+1,by omega,by go_num,by rw[HN.out,l];exact ab.out,by rw[HN.out,l];have:=oB j C.peer;omega,J.out.trans (U.out.mono al)⟩
     case measure=>simp[intOf];omega
    ·go_wp2_with fail;go_roundw;case rel=>
      have l:fa j C=j:=by simp[fa,an.out,aq.out]
      refine⟨k+1,by omega,by go_num,by rw[HN.out,l];exact ac.out,by rw[HN.out,l];omega,J.out⟩
     case measure=>simp[intOf];omega
   ·cases pe;·
     go_wp2_with(first|(go_at_call_of 124 C.peer;refine(Ao (dg j C.name) C.peer _ _ ab.out (by have:=oB j C.name;omega)).mono ?_;rintro e w2⟨v2,rfl,a1,aN⟩;have a4:=aa a1;obtain⟨b3,o3,bf,rfl,a7⟩:=a1;have a3:=aa aN;clear a7 aN)|(go_at_call_of 124 C.name;refine(Ao j C.name _ _ ac.out (by omega)).mono ?_;rintro e w1⟨v1,rfl,R,I⟩;have ab:=aa R;obtain⟨b2,o2,av,rfl,ah⟩:=R;have a9:=I.size;obtain⟨d0,d1,d2,d3,d4⟩:=aM.out.carry aR I;have U:=aa I;clear ah I));go_roundw;case rel=>
      have l:fa j C=dg (dg j C.name) C.peer:=by simp[fa,an.out,aq.out]
      refine⟨k+1,by omega,by go_num,by rw[HN.out,l];exact a4.out,by rw[HN.out,l];have:=oB j C.name;have:=oB (dg j C.name) C.peer;omega,J.out.trans ((U.out.mono al).trans (a3.out.mono (by omega)))⟩
     case measure=>simp[intOf];omega
    ·go_wp2_with(go_at_call 124;refine(Ao j C.name _ _ ac.out (by omega)).mono ?_;rintro e w1⟨v1,rfl,R,I⟩;have ab:=aa R;obtain⟨b2,o2,av,rfl,ah⟩:=R;have a9:=I.size;obtain⟨d0,d1,d2,d3,d4⟩:=aM.out.carry aR I;have U:=aa I;clear ah I);go_roundw;case rel=>
      have l:fa j C=dg j C.name:=by simp[fa,an.out,aq.out]
      refine⟨k+1,by omega,by go_num,by rw[HN.out,l];exact ab.out,by rw[HN.out,l];have:=oB j C.name;omega,J.out.trans (U.out.mono al)⟩
     case measure=>simp[intOf];omega
  ·go_wp2_with fail;go_ret;refine⟨_,rfl,?_,J.out⟩;have:=ac.out;rw[T.out,List.take_of_length_le (by omega)]at this;have e:j.length=((ns.take k).foldl fa []).length:=by rw[T.out]
   rw[e,List.take_of_length_le (by omega)];exact this
theorem jT{a b:ByteArray}(h:a.toList=b.toList):a=b:=by rw[Go.ByteArray.toList_eq,Go.ByteArray.toList_eq]at h;apply ByteArray.ext;exact Array.ext' h
theorem jF{ls:List ByteArray}{t:ByteArray}:cw ls t=true↔t∈ls:=by
 rw[cw,List.any_eq_true];constructor;·rintro⟨s,l,j⟩;rw[beq_iff_eq]at j;rwa[<-jT j]
 ·intro h;exact⟨t,h,by simp⟩
theorem zT:∀(x y:List UInt8),Op.bytesLess x y=decide (x<y)|[],[]=>by simp[Op.bytesLess]|_::_,[]=>by simp[Op.bytesLess]|[],_::_=>by simp[Op.bytesLess]|a::x,b::y=>by rw[Op.bytesLess,zT x y];simp only[List.cons_lt_cons_iff];by_cases j:a<b<;>by_cases l:a=b<;>by_cases C:x<y<;>simp[j,l,C]
theorem nZ(s t:ByteArray):iy s t=true↔s.toList<t.toList:=by rw[iy,zT];simp
theorem wO(s:ByteArray):¬iy s s=true:=by rw[nZ];exact List.lt_irrefl _
theorem yk{s t u:ByteArray}(h:iy s t=true)(j:iy t u=true):iy s u=true:=by rw[nZ]at*;exact List.lt_trans h j
theorem Dy{s t:ByteArray}(h:¬iy s t=true)(C:s≠t):iy t s=true:=by
 rw[nZ]at*;have l:t.toList<=s.toList:=List.not_lt.1 h;by_cases j:t.toList<s.toList;·exact j
 ·exact absurd (jT (List.le_antisymm (List.not_lt.1 j) l)) C
theorem oz(s:ByteArray)(ls:List ByteArray)(t:ByteArray):dg (s::ls) t=if iy s t then s::dg ls t else if s.toList==t.toList then s::ls else t::s::ls:=by
 by_cases h:iy s t=true;·rw[if_pos h,dg,gT,if_pos h,dg,List.drop_succ_cons,List.take_succ_cons];split<;>simp
 ·rw[if_neg h,dg,gT,if_neg h];simp[cw]
def jA(ls:List ByteArray):Prop:=ls.Pairwise fun a b=>iy a b=true
theorem Ai{ls:List ByteArray}{t u:ByteArray}(h:u∈dg ls t):u∈ls\/u=t:=by
 induction ls with
  |nil=>simp[dg,gT,cw]at h;exact .inr h|cons s ls ih=>
   rw[oz]at h;split at h;·
    rcases List.mem_cons.1 h with h|h;·exact .inl (by simp[h])
    ·rcases ih h with h|h;·exact .inl (by simp[h])
     ·exact .inr h
   ·split at h;·exact .inl h
    ·rcases List.mem_cons.1 h with h|h;·exact .inr h
     ·exact .inl h
theorem yH{ls:List ByteArray}(I:jA ls)(t:ByteArray):jA (dg ls t):=by
 induction ls with
  |nil=>simp[dg,gT,cw,jA]|cons s ls ih=>
   obtain⟨J,P⟩:=List.pairwise_cons.1 I;rw[oz];split;·
    rename_i l;refine List.pairwise_cons.2 ⟨fun u hu=>?_,ih P⟩;rcases Ai hu with h|h;·exact J u h
    ·rw[h];exact l
   ·rename_i l;split;·exact I
    ·rename_i R;have C:s≠t:=fun h=>R (by simp[h]);have j:=Dy l C;refine List.pairwise_cons.2 ⟨fun u hu=>?_,I⟩;rcases List.mem_cons.1 hu with h|h;·rw[h];exact j
     ·exact yk j (J u h)
theorem Iz{ls:List ByteArray}(I:jA ls){t:ByteArray}(j:t∈ls):dg ls t=ls:=by
 induction ls with
  |nil=>cases j|cons s ls ih=>
   obtain⟨l,C⟩:=List.pairwise_cons.1 I;rw[oz];rcases List.mem_cons.1 j with h|h;·subst h;rw[if_neg (wO t),if_pos (by simp)]
   ·rw[if_pos (l t h),ih C h]
theorem Ef{ls:List ByteArray}{t:ByteArray}(j:¬t∈ls):(dg ls t).Perm (t::ls):=by
 induction ls with
  |nil=>simp[dg,gT,cw]|cons s ls ih=>
   rw[oz];split;·exact((ih (fun h=>j (List.mem_cons_of_mem _ h))).cons s).trans (List.Perm.swap _ _ _)
   ·rw[if_neg (fun h=>j (by rw[beq_iff_eq]at h;rw[jT h];simp))]
def gY(j:List ByteArray)(t:ByteArray):List ByteArray:=if cw j t then j else j++[t]
theorem zr:∀(ts j l:List ByteArray),jA l->j.Perm l->jA (ts.foldl dg l)/\(ts.foldl gY j).Perm (ts.foldl dg l)
 |[],_,_,I,C=>⟨I,C⟩|t::ts,j,l,I,C=>by
  refine zr ts _ _ (yH I t) ?_;by_cases J:t∈j;·rw[gY,if_pos (jF.2 J),Iz I (C.mem_iff.1 J)];exact C
  ·rw[gY,if_neg (fun h=>J (jF.1 h))];exact(List.perm_append_singleton t j).trans ((C.cons t).trans (Ef (fun h=>J (C.mem_iff.2 h))).symm)
def bT(n:Nd):List ByteArray:=if n.op==3 then[n.name,n.peer]else if n.op==5||n.op==6 then[n.peer]else[]
def lg(j:List ByteArray)(n:Nd):List ByteArray:=(bT n).foldl gY j
def dU(ns:List Nd):List ByteArray:=ns.foldl lg []
theorem ko(ns:List Nd):dU ns=(ns.flatMap bT).foldl gY []:=by rw[dU,List.foldl_flatMap];rfl
def fZ(T:Nd->Bool)(n:Nd):Bool:=ic n||oG n||iJ n||eE n||(n.op !=0&&n.op !=1&&n.op !=2&&T n)
theorem rL{T:Nd->Bool}{go:List Nd->Option (List Nd)}(J:∀l r,go l=some r->∃p,l=p++r/\∀n∈p,fZ T n=true):∀(m:Nat)(ls:List ByteArray)(l r:List Nd),bA go m ls l=some r->∃p,l=p++r/\∀n∈p,fZ T n=true
 |0,_,l,r,h=>by cases h;exact⟨[],rfl,by simp⟩|_+1,_,[],r,h=>by cases h|m+1,ls,n::l,r,h=>by
  rw[bA]at h;split at h;·
   rename_i I;split at h;·cases h
   ·rename_i r' C;obtain⟨p1,P,U⟩:=J _ _ C;obtain⟨p2,R,h2⟩:=rL J m _ _ _ h;have j:eE n=true:=by simp at I;exact I.1
    refine⟨n::(p1++p2),by rw[P,R];simp,?_⟩;intro x hx;rcases List.mem_cons.1 hx with h|h;·subst h;simp[fZ,j]
    ·rcases List.mem_append.1 h with h|h;·exact U x h
     ·exact h2 x h
  ·cases h
theorem vx(T:Nd->Bool):∀(f:Nat)(st l r:List Nd),ahead T f st l=some r->∃p,l=p++r/\∀n∈p,fZ T n=true:=by
 intro f;induction f with
  |zero=>
   intro st l r h;cases l with
    |nil=>cases h|cons n l=>
     rw[ahead]at h;repeat' split at h
     all_goals first|(cases h;done)|(cases h;refine⟨[n],rfl,?_⟩;intro x j;simp at j;subst j;simp_all[fZ])
  |succ f ih=>
   intro st l r h;cases l with
    |nil=>cases h|cons n l=>
     rw[ahead]at h;repeat' split at h
     all_goals
      first
       |(cases h;done)|(cases h;refine⟨[n],rfl,?_⟩;intro x j;simp at j;subst j;simp_all[fZ];done)|
        (
         obtain⟨p,e,I⟩:=ih _ _ _ h;refine⟨n::p,by rw[e];rfl,?_⟩;intro x j;rcases List.mem_cons.1 j with C|C;·subst C;simp_all[fZ]
         ·exact I x C)|
        (
         obtain⟨p,e,I⟩:=rL (ih _) _ _ _ _ h;refine⟨n::p,by rw[e];rfl,?_⟩;intro x j;rcases List.mem_cons.1 j with C|C;·subst C;simp_all[fZ]
         ·exact I x C)
theorem rJ{go j:List Nd->Option (List Nd)}:∀(m:Nat)(ls:List ByteArray)(l:List Nd),(∀l',l'<:+l->go l'=j l')->(∀l' r,go l'=some r->r<:+l')->bA go m ls l=bA j m ls l
 |0,_,l,_,_=>rfl|_+1,_,[],_,_=>rfl|m+1,ls,n::l,h,I=>by
  rw[bA,bA,<-h l (List.suffix_cons _ _)];split;·cases J:go l with|none=>rfl|some r=>exact rJ m _ r (fun l' C=>h l' (C.trans ((I _ _ J).trans (List.suffix_cons _ _)))) I
  ·rfl
theorem vw{T T':Nd->Bool}:∀(f:Nat)(st l:List Nd),(∀n∈l,T n=T' n)->ahead T f st l=ahead T' f st l:=by intro f;induction f with|zero=>intro st l _;cases l<;>rfl|succ f ih=>intro st l h;cases l with|nil=>rfl|cons n l=>rw[ahead,ahead,h n (by simp),ih (n::st) l (fun x C=>h x (List.mem_cons_of_mem _ C))];rw[rJ n.many.toNat [] l (fun l' j=>ih (n::st) l' (fun x C=>h x (List.mem_cons_of_mem _ (j.subset C)))) (fg T f (n::st))]
theorem GM{t:ByteArray}(h:cX t=true):¬t.toList=[]:=by
 intro e;simp only[cX,cA,Bool.and_eq_true]at h;have j:1<=t.size:=by simpa using h.1.1.1
 rw[Go.ByteArray.toList_eq]at e;have l:t.data.size=0:=by simpa using congrArg List.length e
 have C:t.size=t.data.size:=rfl;omega
theorem EC{j:Bool}{n:Nd}(h:fZ (bC j) n=true)(C:List ByteArray):fa C n=(bT n).foldl dg C:=by
 simp only[fZ,Bool.or_eq_true]at h;rcases h with(((h|h)|h)|h)|h;·simp only[ic,Bool.and_eq_true,beq_iff_eq]at h;simp[fa,bT,h]
 ·simp only[oG,Bool.and_eq_true,beq_iff_eq]at h;simp[fa,bT,h]
 ·simp only[iJ,Bool.and_eq_true,beq_iff_eq]at h;simp[fa,bT,h]
 ·simp only[eE,Bool.and_eq_true,beq_iff_eq]at h;simp[fa,bT,h]
 ·simp only[Bool.and_eq_true]at h;have l:=h.2;simp only[bC,Bool.and_eq_true]at l;have J:=GM l.1.1.1;cases j;·simp at l;simp[fa,bT,l,J]
  ·simp at l;rcases l.2.2 with I|I<;>simp[fa,bT,I,J]
theorem tY{C:Bool}{ns:List Nd}(h:∀n∈ns,fZ (bC C) n=true):bc ns=(ns.flatMap bT).foldl dg []:=by
 rw[bc,List.foldl_flatMap];have:∀(l:List Nd)(j:List ByteArray),(∀n∈l,fZ (bC C) n=true)->l.foldl fa j=l.foldl (fun j n=>(bT n).foldl dg j) j:=by intro l;induction l with|nil=>intro j _;rfl|cons n l ih=>intro j h;rw[List.foldl_cons,List.foldl_cons,EC (h n (by simp)),ih _ (fun x I=>h x (List.mem_cons_of_mem _ I))]
 exact this ns [] h
theorem ik{j:Bool}{ns:List Nd}(h:∀n∈ns,fZ (bC j) n=true):jA (bc ns)/\(dU ns).Perm (bc ns):=by rw[tY h,ko];exact zr _ [] [] List.Pairwise.nil (List.Perm.refl _)
def cK(j:Bool)(l:List Nd):Bool:=decide (l.length<=40)&&((ahead (bC j) 10 [] l).map List.length==some 0&&decide ((bc l).length<=4))
def fP(j:Bool)(n:Nd):Bool:=if j then n.op==3 else n.op==5||n.op==6
def BR(l:List Nd):Bool:=decide (l.length<=40)&&((ahead fQ 10 [] l).map List.length==some 0&&decide ((dU l).length<=4))
theorem lP{T:Nd->Bool}{f:Nat}{l:List Nd}(h:((ahead T f [] l).map List.length==some 0)=true):∀n∈l,fZ T n=true:=by cases j:ahead T f [] l with|none=>rw[j]at h;cases h|some r=>rw[j]at h;simp at h;obtain⟨p,e,C⟩:=vx T f [] l r j;rw[h,List.append_nil]at e;rw[e];exact C
theorem yx{j:Bool}{n:Nd}(h:fZ (bC j) n=true):fP j n=false:=by
 simp only[fZ,Bool.or_eq_true]at h;rcases h with(((h|h)|h)|h)|h;·simp only[ic,Bool.and_eq_true,beq_iff_eq]at h;cases j<;>simp[fP,h]
 ·simp only[oG,Bool.and_eq_true,beq_iff_eq]at h;cases j<;>simp[fP,h]
 ·simp only[iJ,Bool.and_eq_true,beq_iff_eq]at h;cases j<;>simp[fP,h]
 ·simp only[eE,Bool.and_eq_true,beq_iff_eq]at h;cases j<;>simp[fP,h]
 ·simp only[Bool.and_eq_true]at h;have l:=h.2;simp only[bC,Bool.and_eq_true]at l;cases j;·simp at l;simp[fP,l]
  ·simp at l;rcases l.2.2 with C|C<;>simp[fP,C]
theorem Cb{j:Bool}{n:Nd}(h:fP j n=false):fQ n=bC j n:=by
 simp only[fQ,bC,nB];cases j;·
  have C:(n.op==5)=false:=by cases e:(n.op==5)<;>simp_all[fP]
  have I:(n.op==6)=false:=by cases e:(n.op==6)<;>simp_all[fP]
  rw[C,I];cases(n.op==3)<;>cases cX n.peer<;>cases jJ n.many<;>cases cX n.name<;>cases(n.sort==0)<;>rfl
 ·have l:(n.op==3)=false:=by cases e:(n.op==3)<;>simp_all[fP]
  rw[l];cases cX n.peer<;>cases jJ n.many<;>cases(n.sort==0)<;>cases(n.op==5)<;>cases(n.op==6)<;>cases(n.name.toList==[])<;>rfl
theorem xx(j:Bool)(l:List Nd):(BR l&&!(l.any (fP j)))=cK j l:=by
 rw[BR,cK];cases P:l.any (fP j);·
  have J:∀n∈l,fP j n=false:=by intro n C;rw[<-Bool.not_eq_true];intro h;have:l.any (fP j)=true:=List.any_eq_true.2 ⟨n,C,h⟩;rw[P]at this;cases this
  rw[vw (T':=bC j) 10 [] l (fun n C=>Cb (J n C))];cases ha:((ahead (bC j) 10 [] l).map List.length==some 0);·simp
  ·rw[((ik (lP ha)).2).length_eq];simp
 ·cases ha:((ahead (bC j) 10 [] l).map List.length==some 0);·simp
  ·exfalso;obtain⟨n,C,I⟩:=List.any_eq_true.1 P;rw[yx (lP ha n C)]at I;cases I
theorem Fc(ls:List ByteArray)(t:ByteArray):(gY ls t).length<=ls.length+1:=by rw[gY];split<;>simp
theorem xy{ns:List Nd}{k:Nat}(h:k<ns.length):(ns.take (k+1)).foldl lg []=lg ((ns.take k).foldl lg []) ns[k]:=by rw[List.take_succ_eq_append_getElem h,List.foldl_append];rfl
theorem ya{ts:List ByteArray}{k:Nat}{j:List ByteArray}(h:k<ts.length):(ts.take (k+1)).foldl gY j=gY ((ts.take k).foldl gY j) ts[k]:=by rw[List.take_succ_eq_append_getElem h,List.foldl_append];rfl
theorem lN(n:Nd):(bT n).length<=2:=by
 rw[bT];split;·simp
 ·split<;>simp
def Nd.fit(n:Nd):Prop:=n.name.size<=1048576/\n.peer.size<=1048576
theorem Nd.fit.ok{n:Nd}(h:n.fit):n.ok:=⟨Nat.le_trans h.1 (by unfold maxLen;omega),Nat.le_trans h.2 (by unfold maxLen;omega)⟩
theorem zd{n:Nd}(l:n.fit):∀t∈bT n,t.size<=1048576:=by
 intro t j;rw[bT]at j;split at j;·
  simp at j;rcases j with h|h;·rw[h];exact l.1
  ·rw[h];exact l.2
 ·split at j;·simp at j;rw[j];exact l.2
  ·cases j
theorem cG.grown{w w':World}{v:Value}{ls:List ByteArray}{row:Option Nat}(h:cG w v ls)(R:w.grownBy w' row)(j:∀b,v.ownBlock=some b->some b≠row):cG w' v ls:=by obtain⟨C,cap,rfl,I,J,P⟩:=h;refine⟨C,cap,rfl,I,J,fun T=>?_⟩;obtain⟨b,o,rfl,l⟩:=P T;exact⟨b,o,rfl,fun i hi=>(j6 R ⟨b,_,none⟩ (World.block_lt_of_cell? w _ (l i hi)) (j b rfl)).trans (l i hi)⟩
def ky:Prop:=∀(s:ByteArray)(w:World),s.size<=1048576->Calls Tryz.prog 243 #[.string s] w fun e w'=>e=.returned (.string s)/\Below w.heap.size w w'
theorem Bj(n:Nd)(w:World):Calls Tryz.prog 242 #[n.val] w fun e w'=>∃P,e=.returned P/\cG w' P (bT n)/\(∀b,P.ownBlock=some b->w.heap.size<=b)/\Below w.heap.size w w':=by
 obtain⟨op,name,j,many,sort⟩:=n;by_cases J:op=3;·subst J;have l:Hid (bT ⟨3,name,j,many,sort⟩=[name,j]):=aa rfl;unfold Nd.val;go_enter Tryz.func242,Tryz.ntmps242;go_wp2_with fail;go_ret;refine⟨_,rfl,?_,by intro b I;simp[Value.ownBlock]at I;omega,(aO _ _).trans ((aO _ _).mono (by simp))⟩;rw[l.out];refine⟨_,_,rfl,by simp,by simp,fun _=>⟨_,_,rfl,fun i hi=>?_⟩⟩;match i,hi with|0,_=>simp|1,_=>simp
 ·by_cases C:op=5\/op=6;·have l:Hid (bT ⟨op,name,j,many,sort⟩=[j]):=aa (by rcases C with h|h<;>subst h<;>rfl);unfold Nd.val;rcases C with h|h;all_goals subst h;clear J;go_enter Tryz.func242,Tryz.ntmps242;go_wp2_with fail;go_ret;refine⟨_,rfl,?_,by intro b I;simp[Value.ownBlock]at I;omega,(aO _ _).trans ((aO _ _).mono (by simp))⟩;rw[l.out];refine⟨_,_,rfl,by simp,by simp,fun _=>⟨_,_,rfl,fun i hi=>?_⟩⟩;match i,hi with|0,_=>simp
  ·have g3:(op==3)=false:=beq_eq_false_iff_ne.2 J;have R:(op==5)=false:=beq_eq_false_iff_ne.2 (fun h=>C (.inl h));have T:(op==6)=false:=beq_eq_false_iff_ne.2 (fun h=>C (.inr h));have l:Hid (bT ⟨op,name,j,many,sort⟩=[]):=aa (by simp[bT,g3,R,T]);clear J C;unfold Nd.val;go_enter Tryz.func242,Tryz.ntmps242;go_wp2_with fail;go_ret;refine⟨_,rfl,?_,by intro b I;simp[Value.ownBlock]at I,aO _ _⟩;rw[l.out];exact⟨_,_,rfl,by simp,by simp,fun h=>absurd rfl h⟩
theorem wE(bN:ky)(ns:List Nd)(ao:Option Addr)(cap:Nat)(w:World)(ok:∀n∈ns,n.fit)(hr:ns≠[]->∃b o,ao=some ⟨b,o,none⟩/\b<w.heap.size/\cV w b o ns)(hl:ns.length<=40):Calls Tryz.prog 205 #[.slice ao ns.length cap] w fun e w'=>∃v',e=.returned v'/\w'.ownsRow w.heap.size 9 1 v' (dU ns).length ((dU ns).map Value.string)/\Below w.heap.size w w':=by
 obtain⟨i0,hi,b4,b5,a2⟩:=info_parts Tryz.my;have HI:=aa (And.intro hi (And.intro b4 (And.intro b5 a2)));have HR:=aa hr;have cb:=aa bN;have cf:=aa ok;clear hr bN ok hi b4 b5 a2;go_enter Tryz.func205,Tryz.ntmps205;go_wp2_with fail;go_loopw[3,10](fun out i wr=>∃(k:Nat)(C:List ByteArray),k<=ns.length/\i=.int .i64 k/\C=(ns.take k).foldl lg []/\wr.ownsRow w.heap.size 9 1 out C.length (C.map Value.string)/\C.length<=2*k/\Below w.heap.size w wr)(fun _ i _=>ns.length-(intOf i).toNat);case atStart=>exact⟨0,[],Nat.zero_le _,rfl,rfl,World.ownsRow_nil _ _ _ _,by simp,Below.refl _ _⟩
 case round=>
  obtain⟨k,C,hk,rfl,a6,bb,cz,ay⟩:=hrel;have a3:=aa a6;have aq:=aa bb;have al:=aa ay;have b1:=ay.size;clear a6 ay bb;by_cases af:k<ns.length;·
   obtain⟨b,o,rfl,cr,bf⟩:=HR.out (by intro h;simp[h]at af);have U:=(bf.get k af).carry cr al.out;obtain⟨n1,a0⟩:∃n1,n1=ns[k]:=⟨_,rfl⟩;rw[<-a0]at U;have HN:=aa (show(ns.take (k+1)).foldl lg []=lg C n1 by rw[xy af,a3.out,a0]);have cd:=aa (show n1.fit by rw[a0];exact cf.out _ (List.getElem_mem af));clear a0 bf;have cI:b<wr.heap.size:=U.lt;obtain⟨c0,c1,c2,c3,c4⟩:=U;go_wp2_with(go_at_call 242;refine(Bj n1 _).mono ?_;rintro e w1⟨v1,rfl,b3,b0,bi⟩;have cl:=aa b3;obtain⟨av,ab,rfl,bB,bL,bM⟩:=b3;have bm:Hid (Below w.heap.size w w1):=aa (al.out.trans (((aO _ _).trans (bi.mono (by simp))).mono b1));have br:=aa (iY (aq.out.alloc _) bi);have cM:=bm.out.size;have cc:=aa b0;clear bi bM b0);obtain⟨ts,ah⟩:∃ts,bT n1=ts:=⟨_,rfl⟩;have cq:=aa ah;rw[ah]at bB bL|-;have cL:ts.length<=2:=by rw[<-ah];exact lN n1
   have cp:=aa (show∀t∈ts,t.size<=1048576 by rw[<-ah];exact zd cd.out);have bv:Hid (cG w1 (.slice av ts.length ab) ts):=aa (by rw[<-ah];exact cl.out);clear ah;go_loopw[3,17](fun out i w2=>∃(j:Nat)(I:List ByteArray),j<=ts.length/\i=.int .i64 j/\I=(ts.take j).foldl gY C/\w2.ownsRow w.heap.size 9 1 out I.length (I.map Value.string)/\I.length<=2*k+j/\Below w.heap.size w w2/\cG w2 (.slice av ts.length ab) ts/\(∀a,av=some a->out.ownBlock≠some a.block)/\(∀a,av=some a->ts≠[]->a.block<w2.heap.size))(fun _ i _=>ts.length-(intOf i).toNat);case atStart=>
    refine⟨0,C,by omega,rfl,rfl,br.out,by omega,bm.out,bv.out,fun a ha hb=>?_,fun a ha a1=>?_⟩;·have h1:=(aq.out.lt _ hb).2;have h2:=cc.out a.block (by rw[ha];rfl);simp at h2;omega
    ·obtain⟨_,_,he,_,_,hc⟩:=bv.out;obtain⟨b,o,cs,bk⟩:=hc a1;have af:=World.block_lt_of_cell? _ _ (bk 0 (List.length_pos_iff.2 a1));have:a.block=b:=by rw[ha]at he;injection he with he;rw[cs]at he;injection he with he;rw[he]
     rw[this];exact af
   case round=>
    obtain⟨j,I,hj,rfl,bz,aM,cx,T,aR,aL,a8⟩:=hrel;have bl:=aa bz;have J:=aa aM;have P:=aa T;have a5:=aa aR;have R:=aa aL;have an:=aa a8;have a2:=T.size;clear bz aM T aL a8;by_cases az:j<ts.length;·
     obtain⟨cy,bx,bR,-,-,a7⟩:=aR;obtain⟨b2,o2,rfl,ad⟩:=a7 (by intro h;simp[h]at az);obtain⟨rfl,rfl⟩:av=some ⟨b2,o2,none⟩/\ab=bx:=by simpa using bR
     have cu:=ad j az;obtain⟨s,hs⟩:∃s,s=ts[j]:=⟨_,rfl⟩;rw[<-hs]at cu;have bn:=aa (show(ts.take (j+1)).foldl gY C=gY I s by rw[ya az,bl.out,hs]);have ch:=aa (show s.size<=1048576 by rw[hs];exact cp.out _ (List.getElem_mem az));clear hs ad a7 bR;cases hh:cw I s;·
      have HH:=aa hh;clear hh;go_wp2_with(first|(go_at_call 184;refine(il I s _ _ (eA J.out (by omega))).mono ?_;rintro e w3⟨rfl,rfl⟩;rw[HH.out])|(go_at_call 243;refine(cb.out s _ ch.out).mono ?_;rintro e w4⟨rfl,ax⟩;have a4:=aa (iY J.out ax);have cN:=ax.size;have cm:=aa (a5.out.carry ax);have b7:=aa ax;clear ax)|(at_builtin;refine wpList_append_own_at _ rfl (.tmp 25) (.tmp 28) 42 rfl w.heap.size 9 i0 (.string ByteArray.empty) 1 16 Tryz.underlying42 HI.out.1 HI.out.2.1 HI.out.2.2.1 HI.out.2.2.2 rfl (by decide) _ I.length (I.map Value.string) rfl (a4.out.alloc _) ⟨_,0,none⟩ 1 1 [.string s] rfl rfl (lW (eT _ _ _ _ rfl)) (one_cell _) (by unfold maxLen;omega) (by omega) (by simp;omega) ?_;intro v5 w5 aN l _ a9;have bs:=aa aN;have bp:=aa a9;have cn:Hid (cG w5 (.slice (some ⟨b2,o2,none⟩) ts.length ab) ts):=aa ((cm.out.carry (aO _ _)).grown l (fun b hb=>by simp[Value.ownBlock]at hb;subst hb;exact fun h=>R.out _ rfl h.symm));have cg:=aa l.size;have ca:Hid (Below w.heap.size w w5):=aa ((((P.out.trans (b7.out.mono a2)).alloc (by omega) _)).grown l (by simp;omega) (gQ a4.out));clear aN l a9));go_wp2_with fail;go_roundw;case rel=>
       have e:gY I s=I++[s]:=by simp[gY,HH.out]
       have h5:=cg.out;simp at h5;refine⟨j+1,I++[s],by omega,by go_num,by rw[bn.out,e],by have:=bs.out;simpa using this,by simp;omega,ca.out,cn.out,fun a ha hb=>?_,fun a ha a1=>?_⟩;·
        have h1:=an.out a ha (by intro h;simp[h]at az);rcases bp.out with h|h;·exact R.out a ha (h.symm.trans hb)
        ·rw[h]at hb;simp at hb;omega
       ·have h1:=an.out a ha a1;omega
      case measure=>simp[intOf];omega
     ·have HH:=aa hh;clear hh;go_wp2_with(go_at_call 184;refine(il I s _ _ (eA J.out (by omega))).mono ?_;rintro e w3⟨rfl,rfl⟩;rw[HH.out]);go_roundw;case rel=>
       have e:gY I s=I:=by simp[gY,HH.out]
       exact⟨j+1,I,by omega,by go_num,by rw[bn.out,e],J.out,by omega,P.out,a5.out,R.out,an.out⟩
      case measure=>simp[intOf];omega
    ·clear aR;go_wp2_with fail;go_roundw;case rel=>
      have cv:lg C n1=I:=by rw[bl.out,lg,cq.out,List.take_of_length_le (by omega)]
      exact⟨k+1,I,by omega,by go_num,by rw[HN.out,cv],J.out,by omega,P.out⟩
     case measure=>simp[intOf];omega
  ·go_wp2_with fail;go_ret;refine⟨_,rfl,?_,al.out⟩;have h1:C=dU ns:=by rw[a3.out,List.take_of_length_le (by omega)];rfl
   rw[<-h1];exact aq.out
theorem zP(j:ky)(ns:List Nd)(v:Value)(w:World)(R:∀n∈ns,n.fit)(P:bG w w.heap.size v ns)(I:ns.length<=40):Calls Tryz.prog 205 #[v] w fun e w'=>∃l,e=.returned l/\w'.ownsRow w.heap.size 9 1 l (dU ns).length ((dU ns).map Value.string)/\Below w.heap.size w w':=by obtain⟨C,cap,rfl,T,U,J⟩:=P;exact wE j ns C cap w R J I
section
def gJ(l:List Nd):Prop:=∀n∈l,n.fit
theorem ir{l r:List Nd}:gJ (l++r)↔gJ l/\gJ r:=by unfold gJ;simp only[List.mem_append];exact⟨fun h=>⟨fun n j=>h n (.inl j),fun n j=>h n (.inr j)⟩,fun h n j=>j.elim (h.1 n) (h.2 n)⟩
theorem dt{n:Nd}{l:List Nd}:gJ (n::l)↔n.fit/\gJ l:=by unfold gJ;simp only[List.mem_cons];exact⟨fun h=>⟨h n (.inl rfl),fun m j=>h m (.inr j)⟩,fun h m j=>j.elim (fun e=>e▸h.1) (h.2 m)⟩
theorem zF:gJ []:=fun _ h=>by cases h
section
variable {α : Type} {f : α -> List Nd}
theorem uu:∀{l:List (Br α)}{i:Nat}{b:Br α}(c:Br α),l[i]?=some b->(aV f (l.set i c)).length+(f b.p).length=(aV f l).length+(f c.p).length/\(gJ (aV f l)->gJ [⟨4,c.l,df,0,c.s⟩]->gJ (f c.p)->gJ (aV f (l.set i c)))|[],i,b,c,h=>by simp at h|a::l,0,b,c,h=>by simp at h;subst h;rw[List.set_cons_zero,cC,cC];refine⟨by simp only[List.length_cons,List.length_append];omega,fun C h2 j=>?_⟩;rw[dt,ir]at*;exact⟨h2.1,j,C.2.2⟩|a::l,i+1,b,c,h=>by rw[List.getElem?_cons_succ]at h;obtain⟨C,h2⟩:=uu c h;rw[List.set_cons_succ,cC,cC];refine⟨by simp only[List.length_cons,List.length_append];omega,fun j I J=>?_⟩;rw[dt,ir]at j|-;exact⟨j.1,j.2.1,h2 j.2.2 I J⟩
theorem kF:∀{l:List (Br α)}{i:Nat}{b:Br α},l[i]?=some b->(f b.p).length+1<=(aV f l).length/\(gJ (aV f l)->gJ [⟨4,b.l,df,0,b.s⟩]/\gJ (f b.p))|[],i,b,h=>by simp at h|a::l,0,b,h=>by simp at h;subst h;rw[cC];refine⟨by simp only[List.length_cons,List.length_append];omega,fun j=>?_⟩;rw[dt,ir]at j;exact⟨dt.2 ⟨j.1,zF⟩,j.2.1⟩|a::l,i+1,b,h=>by rw[List.getElem?_cons_succ]at h;obtain⟨j,I⟩:=kF h;rw[cC];refine⟨by simp only[List.length_cons,List.length_append];omega,fun C=>?_⟩;rw[dt,ir]at C;exact I C.2.2
def AF(a b c:List Nd):Prop:=c.length<=a.length+b.length/\(gJ a->gJ b->gJ c)
theorem qN(a b:List Nd):AF a b a:=⟨by omega,fun h _=>h⟩
theorem kL{mg:α->α->Option α}(I:∀x y z,mg x y=some z->AF (f x) (f y) (f z)):∀(ds j l:List (Br α)),bP mg j ds=some l->AF (aV f j) (aV f ds) (aV f l)
 |[],j,l,h=>by rw[bP]at h;injection h with h;subst h;exact qN _ _|d::ds,j,l,h=>by
  rw[bP]at h;rw[cC];split at h;·
   obtain⟨R,J⟩:=kL I ds _ l h;rw[iT]at R J;have e:aV f [d]=⟨4,d.l,df,0,d.s⟩::f d.p:=by rw[cC];simp[aV]
   rw[e]at R J;refine⟨by simp only[List.length_append,List.length_cons]at*;omega,fun P C=>?_⟩;rw[dt,ir]at C;exact J (ir.2 ⟨P,dt.2 ⟨C.1,C.2.1⟩⟩) C.2.2
  ·rename_i i hi;split at h;·cases h
   ·rename_i b C;split at h;·cases h
    ·rename_i q hq;split at h;·obtain⟨R,J⟩:=kL I ds _ l h;obtain⟨h3,h4⟩:=I b.p d.p q hq;obtain⟨h5,h6⟩:=uu (f:=f) ⟨b.l,b.s,q⟩ C;obtain⟨h7,U⟩:=kF (f:=f) C;refine⟨by simp only[List.length_append,List.length_cons]at*;omega,fun P T=>?_⟩;rw[dt,ir]at T;exact J (h6 P (U P).1 (h4 (U P).2 T.2.1)) T.2.2
     ·cases h
theorem pZ{mg:α->α->Option α}(j:∀x y z,mg x y=some z->AF (f x) (f y) (f z)):∀(r:List (Br α))(x z:α),bF mg x r=some z->AF (f x) (aV f r) (f z)
 |[],x,z,h=>by rw[bF]at h;injection h with h;subst h;exact qN _ _|b::r,x,z,h=>by
  rw[bF]at h;split at h;·cases h
  ·rename_i q P;obtain⟨R,C⟩:=pZ j r q z h;obtain⟨T,I⟩:=j x b.p q P;rw[cC];refine⟨by simp only[List.length_cons,List.length_append];omega,fun J l=>?_⟩;rw[dt,ir]at l;exact C (I J l.2.1) l.2.2
end
theorem eU{n:Nat}{p:Pn (n+1)}{a:ByteArray}{l:List (Br (Pn n))}(h:j7 p=some (a,l)):∃b,p=.cU ⟨6,b,a⟩ l:=by
 revert h;refine Pn.cases (P:=fun p=>j7 p=some (a,l)->∃b,p=.cU ⟨6,b,a⟩ l) (fun x h=>?_) (fun x q h=>?_) (fun t l' h=>?_) p;·cases h
 ·cases h
 ·have j:(if t.op==6 then some (t.b,l')else none)=some (a,l):=h;split at j;·
   rename_i J;injection j with j;injection j with I R;obtain⟨op,x,y⟩:=t;dsimp only at I J;have C:op=6:=by simpa using J
   subst I;subst R;subst C;exact⟨x,rfl⟩
  ·cases j
theorem lG:∀(n:Nat)(x y z:Pn n),aU n x y=some z->AF (aw n x) (aw n y) (aw n z):=by
 intro n;induction n with
  |zero=>
   intro x y z h;rw[aU]at h;split at h;·injection h with h;subst h;exact qN _ _
   ·cases h|succ n ih=>
   intro x y z h;rw[aU]at h;split at h;·injection h with h;subst h;exact qN _ _
   ·split at h;·
     rename_i a cs b ds J P;split at h;·
      split at h;·
       rename_i l hl;split at h;·injection h with h;subst h;obtain⟨T,rfl⟩:=eU J;obtain⟨U,rfl⟩:=eU P;obtain⟨R,I⟩:=kL ih ds cs l hl;rw[bI,bI,bI];refine⟨by simp only[List.length_cons];omega,fun j C=>?_⟩;rw[dt]at j C|-;exact⟨⟨by simp[df],j.1.2⟩,I j.2 C.2⟩
       ·cases h
      ·cases h
     ·cases h
    ·cases h
def um(a c:List Nd):Prop:=c.length<=a.length/\(gJ a->gJ c)
theorem lI{α:Type}{f:α->List Nd}{g:α->Option α}{Q:α->Prop}(J:∀x y,Q x->g x=some y->um (f x) (f y)):∀(l r:List (Br α)),(∀b∈l,Q b.p)->bt g l=some r->um (aV f l) (aV f r)/\r.length=l.length
 |[],r,_,h=>by rw[bt]at h;injection h with h;subst h;exact⟨⟨Nat.le_refl _,id⟩,rfl⟩|b::l,r,P,h=>by
  rw[bt]at h;split at h;·cases h
  ·rename_i q C;split at h;·cases h
   ·rename_i r' I;injection h with h;subst h;obtain⟨h1,R⟩:=J b.p q (P b (by simp)) C;obtain⟨⟨h3,T⟩,h5⟩:=lI J l r' (fun c U=>P c (by simp[U])) I;rw[cC,cC];refine⟨⟨by simp only[List.length_cons,List.length_append];omega,fun j=>?_⟩,by simp only[List.length_cons];omega⟩;rw[dt,ir]at j|-;exact⟨j.1,R j.2.1,T j.2.2⟩
theorem gS(role:ByteArray):∀(n:Nat)(p q:Pn n),bY n p->ba role n p=some q->um (aw n p) (aw n q):=by
 intro n;induction n with
  |zero=>intro p q _ h;rw[ba]at h;injection h with h;subst h;exact⟨Nat.le_refl _,id⟩|succ n ih=>
   intro p;refine Pn.cases (P:=fun p=>∀q,bY (n+1) p->ba role (n+1) p=some q->um (aw (n+1) p) (aw (n+1) q)) (fun x q _ h=>?_) (fun x p q T h=>?_) (fun t l q T h=>?_) p;·have j:some (Pn.leaf x)=some q:=h;injection j with j;subst j;exact⟨Nat.le_refl _,id⟩
   ·have j:(if j9 role (aw (n+1) (.loop x p))then some (Pn.leaf none)else(ba role n p).map (Pn.loop x))=some q:=h;have I:bY n p:=T;split at j;·injection j with j;subst j;rw[cO,El];refine⟨by simp only[bO,List.length_cons,List.length_nil];omega,fun _=>dt.2 ⟨by simp[Nd.fit,df],zF⟩⟩
    ·cases U:ba role n p with|none=>rw[U]at j;cases j|some q'=>rw[U]at j;simp only[Option.map_some,Option.some.injEq]at j;subst j;obtain⟨h1,J⟩:=ih p q' I U;rw[cO,cO];refine⟨by simp only[List.length_cons];omega,fun C=>?_⟩;rw[dt]at C|-;exact⟨C.1,J C.2⟩
   ·have j:(match bt (ba role n) l with|none=>none|some r=>if role.toList==t.a.toList then some (Pn.cU ⟨5,df,t.b⟩ r)else if role.toList==t.b.toList then some (.cU ⟨6,df,t.a⟩ r)else match r with|[]=>none|c::r=>(bF (aU n) c.p r).map (nF n))=some q:=h;have I:t.op=3/\(t.a.toList==t.b.toList)=false/\1<=l.length/\l.length<=4/\∀b∈l,bY n b.p:=T;split at j;·cases j
    ·rename_i r hr;obtain⟨⟨h1,J⟩,h3⟩:=lI (Q:=bY n) (fun x y hx hy=>ih x y hx hy) l r I.2.2.2.2 hr;rw[bI];split at j;·injection j with j;subst j;rw[bI];refine⟨by simp only[List.length_cons];omega,fun C=>?_⟩;rw[dt]at C|-;exact⟨⟨by simp[df],C.1.2⟩,J C.2⟩
     ·split at j;·injection j with j;subst j;rw[bI];refine⟨by simp only[List.length_cons];omega,fun C=>?_⟩;rw[dt]at C|-;exact⟨⟨by simp[df],C.1.1⟩,J C.2⟩
      ·split at j;·cases j
       ·rename_i c r;cases R:bF (aU n) c.p r with|none=>rw[R]at j;cases j|some z=>rw[R]at j;simp only[Option.map_some,Option.some.injEq]at j;subst j;obtain⟨h4,h5⟩:=pZ (lG n) r c.p z R;rw[zh];rw[cC]at h1 J;refine⟨by simp only[List.length_cons,List.length_append]at*;omega,fun C=>?_⟩;have:=J (dt.1 C).2;rw[dt,ir]at this;exact h5 this.2.1 this.2.2
end
theorem e8:ky:=by intro s w C;have I:=aa C;clear C;go_enter Tryz.func243,Tryz.ntmps243;go_wp2_with(go_at_call 272;refine(Tryz.stringslite_Clone s _ (Nat.le_trans I.out (by omega))).mono ?_;rintro e J⟨rfl,j⟩;have l:=aa j;clear j);go_ret;exact⟨rfl,l.out⟩
def ly(w:World)(v:Value)(ls:List Int):Prop:=∃j cap,v=.slice j ls.length cap/\ls.length<=cap/\ls.length<=4294967296/\(ls≠[]->∃b o,j=some ⟨b,o,none⟩/\∀i(h:i<ls.length),w.cell? ⟨b,o+i,none⟩=some (.int .i64 ls[i]))
theorem ly.carry{w w':World}{v:Value}{ls:List Int}(h:ly w v ls)(T:Below w.heap.size w w'):ly w' v ls:=by obtain⟨C,cap,I,J,P,R⟩:=h;refine⟨C,cap,I,J,P,fun j=>?_⟩;obtain⟨b,o,e,l⟩:=R j;refine⟨b,o,e,fun i hi=>?_⟩;exact(T.cell (p:=⟨b,_,none⟩) (World.block_lt_of_cell? w _ (l i hi))).trans (l i hi)
def oR(ls:List Int)(t:Int):Bool:=ls.any fun s=>t==s
theorem Bc{ls:List Int}{t:Int}{k:Nat}(l:k<ls.length)(h:oR (ls.take k) t=false)(j:(t==ls[k])=false):oR (ls.take (k+1)) t=false:=by rw[oR,List.take_succ_eq_append_getElem l,List.any_append];have:(ls.take k).any (fun s=>t==s)=false:=h;rw[this];simpa using j
theorem Dd{ls:List Int}{t:Int}{k:Nat}(l:k<ls.length)(j:(t==ls[k])=true):oR ls t=true:=by rw[oR,List.any_eq_true];exact⟨ls[k],List.getElem_mem l,j⟩
theorem FV(ls:List Int)(t:Int)(v:Value)(w:World)(hv:ly w v ls):Calls Tryz.prog 271 #[v,.int .i64 t] w fun e w'=>∃j:Int,e=.returned (.int .i64 j)/\decide (0<=j)=oR ls t/\w'=w:=by
 obtain⟨ao,cap,rfl,hc,hm,hr⟩:=hv;have HR:=aa hr;clear hr;go_enter Tryz.func271,Tryz.ntmps271;go_wp2_with fail;go_loop[8](fun i=>∃k:Nat,k<=ls.length/\i=.int .i64 k/\oR (ls.take k) t=false)(fun i=>ls.length-(intOf i).toNat);case atStart=>exact⟨0,Nat.zero_le _,rfl,rfl⟩
 case round=>
  obtain⟨k,hk,rfl,I⟩:=hrel;have T:=aa I;clear I;by_cases C:k<ls.length;·
   obtain⟨b,o,rfl,l⟩:=HR.out (by intro h;simp[h]at C);have P:=l k C;obtain⟨s,R⟩:∃s,s=ls[k]:=⟨_,rfl⟩;rw[<-R]at P;have J:=aa R;clear l R;cases heq:(t==s);all_goals have U:=aa heq
   ·go_wp2_with fail;go_round;case rel=>exact⟨k+1,by omega,by go_num,Bc C T.out (by rw[<-J.out];exact U.out)⟩
    case measure=>simp[intOf];omega
   ·go_wp2_with fail;go_ret;exact⟨_,rfl,by rw[Dd C (by rw[<-J.out];exact U.out)];simp,rfl⟩
  ·go_wp2_with fail;go_ret;refine⟨_,rfl,?_,rfl⟩;have:=T.out;rw[List.take_of_length_le (by omega)]at this;rw[this];rfl
theorem rU(ls:List Int)(t:Int)(v:Value)(w:World)(C:ly w v ls):Calls Tryz.prog 241 #[v,.int .i64 t] w fun e w'=>e=.returned (.bool (oR ls t))/\w'=w:=by have J:=aa C;obtain⟨U,cap,rfl,P,R,T⟩:=C;clear T P R;go_enter Tryz.func241,Tryz.ntmps241;go_wp2_with(go_at_call 271;refine(FV ls t _ _ J.out).mono ?_;rintro e w'⟨j,rfl,l,rfl⟩;have I:=aa l;clear l);go_ret;exact⟨aC I.out.symm,rfl⟩
theorem wy(I:List Int)(ns:List Nd)(v u:Value)(w:World)(hv:bG w w.heap.size v ns)(hu:ly w u I):Calls Tryz.prog 204 #[v,u] w fun e w'=>e=.returned (.bool (ns.any fun n=>oR I n.op))/\Below w.heap.size w w':=by
 obtain⟨ao,cap,rfl,hc,hm,hr⟩:=hv;have HR:=aa hr;have HU:=aa hu;obtain⟨af,ad,rfl,al,an,ac⟩:=hu;clear hr ac;go_enter Tryz.func204,Tryz.ntmps204;go_wp2_with fail;go_loopw[9](fun i wr=>∃k:Nat,k<=ns.length/\i=.int .i64 k/\(ns.take k).any (fun n=>oR I n.op)=false/\Below w.heap.size w wr)(fun i _=>ns.length-(intOf i).toNat);case atStart=>exact⟨0,Nat.zero_le _,rfl,rfl,Below.refl _ _⟩
 case round=>
  obtain⟨k,hk,rfl,R,J⟩:=hrel;have HA:=aa R;have j:=aa J;have C:=J.size;clear R J;by_cases P:k<ns.length;·
   obtain⟨b,o,rfl,ab,T⟩:=HR.out (by intro h;simp[h]at P);have l:=(T.get k P).carry ab j.out;obtain⟨n1,U⟩:∃n1,n1=ns[k]:=⟨_,rfl⟩;rw[<-U]at l;have HN:=aa U;clear U T;have ah:b<wr.heap.size:=l.lt;obtain⟨c0,c1,c2,c3,c4⟩:=l;cases hh:oR I n1.op;·
    have HH:=aa hh;clear hh;go_wp2_with(go_at_call 241;refine(rU I n1.op _ _ (HU.out.carry (j.out.trans ((aO _ _).mono C)))).mono ?_;rintro e w1⟨rfl,rfl⟩;rw[HH.out]);go_roundw;case rel=>exact⟨k+1,by omega,by go_num,by rw[List.take_succ_eq_append_getElem P,List.any_append,HA.out,<-HN.out];simp[HH.out],j.out.trans ((aO _ _).mono C)⟩
    case measure=>simp[intOf];omega
   ·have HH:=aa hh;clear hh;go_wp2_with(go_at_call 241;refine(rU I n1.op _ _ (HU.out.carry (j.out.trans ((aO _ _).mono C)))).mono ?_;rintro e w1⟨rfl,rfl⟩;rw[HH.out]);go_ret;refine⟨aC ?_,j.out.trans ((aO _ _).mono C)⟩;rw[List.any_eq_true];exact⟨n1,by rw[HN.out];exact List.getElem_mem P,HH.out⟩
  ·go_wp2_with fail;go_ret;refine⟨aC ?_,j.out⟩;have:=HA.out;rwa[List.take_of_length_le (by omega)]at this
section
attribute [local go_sem ↓] Go.wp_at_zero Go.wp_at_succ
theorem Ac(m:aF)(w:World)(hf:m.fit):Calls Tryz.prog 213 #[m.val] w fun e w'=>e=.returned m.val/\Below w.heap.size w w':=by
 have HF:=aa hf;unfold aF.val;have hi:(Tryz.prog.info? 158).map (·.size)=some 4:=by obtain⟨i0,hi,_,ah,_⟩:=info_parts Tryz.fK;rw[hi];simp[ah]
 have HI:=aa hi;clear hi hf;go_enter Tryz.func213,Tryz.ntmps213;go_wp2_with fail;refine jv 12 (by kernel_rfl) (by kernel_rfl) (fun W I=>?_);simp only[List.take_succ_cons,List.take_zero,List.drop_succ_cons,List.drop_zero];have af:=bj W;have J:Hid (Below w.heap.size w W):=aa (by rw[I];exact(ae _ _).trans ((ae _ _).mono (by simp)));have f0:=au (w:=W) (b:=w.heap.size) (o:=0) (v:=.string m.cE) (by rw[I];simp);have f1:=au (w:=W) (b:=w.heap.size) (o:=1) (v:=.string m.to) (by rw[I];simp);have f2:=au (w:=W) (b:=w.heap.size) (o:=2) (v:=.string m.label) (by rw[I];simp);have f3:=au (w:=W) (b:=w.heap.size) (o:=3) (v:=.int .i64 m.sort) (by rw[I];simp);have l:w.heap.size+1<W.heap.size:=by rw[I];simp
 have P:Hid (∀o,o<4->(∃y,W.cell? ⟨w.heap.size+1,o,none⟩=some y)/\W.frozen? ⟨w.heap.size+1,o,none⟩=false):=aa (fun o ho=>by rw[I];rcases o with _|_|_|_|o;all_goals first|(exfalso;omega)|(constructor;exact⟨_,by simp;rfl⟩;simp));clear I;repeat(go_big_quiet_step(first|(go_at_call_of 243 m.cE;exact bh (e8 _ _ HF.out.1))|(go_at_call_of 243 m.to;exact bh (e8 _ _ HF.out.2.1))|(go_at_call_of 243 m.label;exact bh (e8 _ _ HF.out.2.2))))
 refine wpQuiet_nil ?_;intro w2 j;have ab:Hid (Below w.heap.size w w2):=aa (J.out.trans (j.mono J.out.size));obtain⟨⟨y0,U⟩,z0⟩:=P.out 0 (by omega);obtain⟨⟨y1,c1⟩,z1⟩:=P.out 1 (by omega);obtain⟨⟨y2,c2⟩,z2⟩:=P.out 2 (by omega);obtain⟨⟨y3,c3⟩,z3⟩:=P.out 3 (by omega);replace U:=(j.cell (p:=⟨w.heap.size+1,0,none⟩) l).trans U;replace c1:=(j.cell (p:=⟨w.heap.size+1,1,none⟩) l).trans c1;replace c2:=(j.cell (p:=⟨w.heap.size+1,2,none⟩) l).trans c2;replace c3:=(j.cell (p:=⟨w.heap.size+1,3,none⟩) l).trans c3;replace z0:=(j.frozen (p:=⟨w.heap.size+1,0,none⟩) l).trans z0;replace z1:=(j.frozen (p:=⟨w.heap.size+1,1,none⟩) l).trans z1;replace z2:=(j.frozen (p:=⟨w.heap.size+1,2,none⟩) l).trans z2;replace z3:=(j.frozen (p:=⟨w.heap.size+1,3,none⟩) l).trans z3;clear j af f0 f1 f2 f3 P;go_wp2_with fail;obtain⟨R,C⟩:∃R,R=iI w2 (w.heap.size+1) 0 m:=⟨_,rfl⟩;have ac:dR R (w.heap.size+1) 0 m:=by
  rw[C];refine tQ _ _ _ _ (fun i hi=>?_);rcases i with _|_|_|_|i;·exact⟨_,U⟩
  ·exact⟨_,c1⟩
  ·exact⟨_,c2⟩
  ·exact⟨_,c3⟩
  ·omega
 have ad:Below w.heap.size w R:=by rw[C];exact ou ab.out (by omega) _ _
 have T:R=((((w2.setCell ⟨w.heap.size+1,0,none⟩ (.string m.cE)).setCell ⟨w.heap.size+1,1,none⟩ (.string m.to)).setCell ⟨w.heap.size+1,2,none⟩ (.string m.label)).setCell ⟨w.heap.size+1,3,none⟩ (.int .i64 m.sort)):=C;rw[<-T];obtain⟨r0,r1,r2,r3⟩:=ac;clear C T U c1 c2 c3 z0 z1 z2 z3;refine bodyPost_ret_by (v:=.agg #[.string m.cE,.string m.to,.string m.label,.int .i64 m.sort]) ?_ rfl ⟨rfl,ad⟩;unfold results;go_simp
theorem uU(l:List aF)(v:Value)(w:World)(h4:l.length<=4096)(hf:∀m∈l,m.fit)(hv:bq w w.heap.size v l):Calls Tryz.prog 167 #[v] w fun e w'=>∃v',e=.returned v'/\aX w' w.heap.size v' l/\Below w.heap.size w w':=by
 have HF:=aa hf;obtain⟨i0,hi,ax,ay,az⟩:=info_parts Tryz.fK;have HI:=aa (And.intro hi (And.intro ax (And.intro ay az)));obtain⟨ao,cap,rfl,hc,hm,hr⟩:=hv;have HR:=aa hr;clear hr hf hi ax ay az;go_enter Tryz.func167,Tryz.ntmps167;go_wp2_with fail;go_loopw[3,8](fun all i wr=>∃k:Nat,k<=l.length/\i=.int .i64 k/\wr.ownsRow w.heap.size 158 4 all k ((l.take k).flatMap aF.cells)/\Below w.heap.size w wr)(fun _ i _=>l.length-(intOf i).toNat);case atStart=>exact⟨0,Nat.zero_le _,rfl,aX.nil _ _,Below.refl _ _⟩
 case round=>
  obtain⟨k,hk,rfl,U,ac⟩:=hrel;have J:=aa U;have C:=aa ac;obtain⟨p,cp,rfl⟩:=ar U;clear U ac;by_cases P:k<l.length;·
   obtain⟨b,o,rfl,aM,af⟩:=HR.out (by intro h;simp[h]at P);have T:=(af.get k P).carry aM C.out;have an:Hid (l.take (k+1)=l.take k++[l[k]]):=aa (List.take_succ_eq_append_getElem P);have R:l[k]∈l:=List.getElem_mem P;obtain⟨x1,av⟩:∃x1,x1=l[k]:=⟨_,rfl⟩;rw[<-av]at T R an;have aL:=aa (HF.out x1 R);obtain⟨d0,d1,d2,d3⟩:=T;clear av af R;go_wp2_with(first|(go_at_call 213;refine(Ac x1 _ aL.out).mono ?_;rintro e w3⟨rfl,aq⟩;have I:Hid (Below wr.heap.size wr w3):=aa ((ae _ _).trans (aq.mono (by simp)));clear aq;unfold aF.val)|(at_builtin;refine wpList_append_own _ rfl (.tmp 12) (.tmp 15) 29 rfl w.heap.size 158 i0 (.agg #[.string ByteArray.empty,.string ByteArray.empty,.string ByteArray.empty,.int .i64 0]) 4 56 Tryz.underlying29 HI.out.1 HI.out.2.1 HI.out.2.2.1 HI.out.2.2.2 rfl (by decide) (.slice p k cp) k ((l.take k).flatMap aF.cells) rfl (aQ J.out (I.out.trans ((ae _ _).mono I.out.size))) ⟨w3.heap.size,0,none⟩ 1 1 x1.cells rfl rfl (fun j u hj=>eG _ _ _ j u hj) (aF.cells_one _) (by unfold maxLen;omega) (by omega) (by have:=I.out.size;have:=C.out.size;simp;omega) ?_;intro v4 w4 ab ad _;have ah:=aa ab;have al:=aa ad;clear ab ad));go_roundw;case rel=>
    have hA:aG wr w4 (ag (.slice p k cp)):=by have:=(aj (I.out.trans ((ae w3 _).mono I.out.size))).trans (aD al.out);rwa[List.nil_append]at this
    refine⟨k+1,P,by go_num,?_,C.out.trans (hA.below C.out.size (ak J.out).lo)⟩;rw[an.out,List.flatMap_append];simpa using ah.out
   case measure=>simp[intOf];omega
  ·have HK:Hid (aX wr w.heap.size (.slice p k cp) l):=aa (by have:=J.out;rw[List.take_of_length_le (by omega)]at this;unfold aX;rwa[show l.length=k by omega]);go_wp2_with fail;go_ret;exact⟨_,rfl,HK.out,C.out⟩
end
section
def jP:Option ByteArray->Value->Prop|none,v=>v=.iface 304 (.agg #[])|some x,v=>v=.iface 295 (.agg #[.string x])
def uf(t:Tk)(sl:Value):Value:=if t.op==3 then .iface 302 (.agg #[.string t.a,.string t.b,sl])else if t.op==5 then .iface 343 (.agg #[.string t.b,sl])else .iface 344 (.agg #[.string t.b,sl])
def AB{α:Type}(C:α->Value->Prop)(w:World)(S:Nat->Prop)(v:Value)(l:List (Br α)):Prop:=∃j cap,v=.slice j l.length cap/\l.length<=cap/\cap<=maxLen/\(l≠[]->∃g o,j=some ⟨g,o,none⟩/\S g/\∀(i:Nat)(b:Br α),l[i]?=some b->w.cell? ⟨g,o+i*3,none⟩=some (.string b.l)/\w.cell? ⟨g,o+i*3+1,none⟩=some (.int .i64 b.s)/\∃u,w.cell? ⟨g,o+i*3+2,none⟩=some u/\C b.p u)
def cJ(w:World)(S:Nat->Prop):(n:Nat)->Pn n->Value->Prop|0,x,v=>jP x v|n+1,p,v=>p.by (fun x=>jP x v) (fun x q=>∃u,v=.iface 297 (.agg #[.string x,u])/\cJ w S n q u) (fun t l=>∃sl,v=uf t sl/\AB (cJ w S n) w S sl l)
theorem AB.carry{α:Type}{P j:α->Value->Prop}{w w':World}{S S':Nat->Prop}{v:Value}{l:List (Br α)}(h:AB P w S v l)(I:∀g,S g->w'.heap[g]?=w.heap[g]?)(hB:∀g,S g->S' g)(hp:∀b∈l,∀u,P b.p u->j b.p u):AB j w' S' v l:=by obtain⟨R,cap,e,h1,h2,h3⟩:=h;refine⟨R,cap,e,h1,h2,fun J=>?_⟩;obtain⟨g,o,T,C,U⟩:=h3 J;refine⟨g,o,T,hB g C,fun i b hi=>?_⟩;obtain⟨k1,k2,u,k3,k4⟩:=U i b hi;exact⟨(World.cell?_of_block (a:=⟨g,o+i*3,none⟩) (I g C)).trans k1,(World.cell?_of_block (a:=⟨g,o+i*3+1,none⟩) (I g C)).trans k2,u,(World.cell?_of_block (a:=⟨g,o+i*3+2,none⟩) (I g C)).trans k3,hp b (List.mem_of_getElem? hi) u k4⟩
theorem cJ.carry{w w':World}{S S':Nat->Prop}(C:∀g,S g->w'.heap[g]?=w.heap[g]?)(j:∀g,S g->S' g):∀(n:Nat)(p:Pn n)(v:Value),cJ w S n p v->cJ w' S' n p v:=by
 intro n;induction n with
  |zero=>intro p v h;exact h|succ n ih=>
   intro p;refine Pn.cases (P:=fun p=>∀v,cJ w S (n+1) p v->cJ w' S' (n+1) p v) (fun x v h=>h) (fun x q v h=>?_) (fun t l v h=>?_) p;·obtain⟨u,e,h⟩:=h;exact⟨u,e,ih q u h⟩
   ·obtain⟨sl,e,h⟩:=h;exact⟨sl,e,h.carry C j (fun b _ u hu=>ih b.p u hu)⟩
theorem JB{w:World}{S:Nat->Prop}:∀(n:Nat)(p:Pn n)(v:Value),cJ w S n p v->cJ w S (n+1) (nF n p) v:=by
 intro n;induction n with
  |zero=>intro p v h;exact h|succ n ih=>
   intro p;refine Pn.cases (P:=fun p=>∀v,cJ w S (n+1) p v->cJ w S (n+2) (nF (n+1) p) v) (fun x v h=>h) (fun x q v h=>?_) (fun t l v h=>?_) p;·obtain⟨u,e,h⟩:=h;exact⟨u,e,ih q u h⟩
   ·obtain⟨sl,e,J,cap,j,U,h2,h3⟩:=h;refine⟨sl,e,J,cap,by rw[List.length_map];exact j,by rw[List.length_map];exact U,h2,fun C=>?_⟩;obtain⟨g,o,R,j,T⟩:=h3 (fun h=>C (by rw[h];rfl));refine⟨g,o,R,j,fun i b hi=>?_⟩;rw[List.getElem?_map]at hi;cases I:l[i]? with|none=>rw[I]at hi;cases hi|some x=>rw[I]at hi;simp only[Option.map_some,Option.some.injEq]at hi;subst hi;obtain⟨k1,k2,u,k3,k4⟩:=T i x I;exact⟨k1,k2,u,k3,ih x.p u k4⟩
theorem mZ{x:Option ByteArray}{v:Value}(h:jP x v):∃t a,v=.iface t (.agg a):=by cases x with|none=>exact⟨_,_,h⟩|some x=>exact⟨_,_,h⟩
theorem zc(t:Tk)(sl:Value):∃T a,uf t sl=.iface T (.agg a):=by
 unfold uf;split;·exact⟨_,_,rfl⟩
 ·split;·exact⟨_,_,rfl⟩
  ·exact⟨_,_,rfl⟩
theorem cJ.shape{w:World}{S:Nat->Prop}:∀{n:Nat}{p:Pn n}{v:Value},cJ w S n p v->∃t a,v=.iface t (.agg a)
 |0,p,v,h=>mZ h|n+1,p,v,h=>by
  revert h;refine Pn.cases (P:=fun p=>cJ w S (n+1) p v->∃t a,v=.iface t (.agg a)) (fun x h=>mZ h) (fun x q h=>?_) (fun t l h=>?_) p;·obtain⟨u,e,_⟩:=h;exact⟨_,_,e⟩
  ·obtain⟨sl,e,_⟩:=h;obtain⟨T,a,j⟩:=zc t sl;exact⟨T,a,e.trans j⟩
theorem cJ.one{w:World}{S:Nat->Prop}{n:Nat}{p:Pn n}{v:Value}(h:cJ w S n p v):v.oneCell'=true:=by obtain⟨t,a,rfl⟩:=h.shape;rfl
structure BV(n:Nat)where
 b:Br (Pn n)
 u:Value
def BV.cells{n:Nat}(x:BV n):List Value:=[.string x.b.l,.int .i64 x.b.s,x.u]
theorem BV.bg{n:Nat}(x:BV n):x.cells.length=3:=rfl
def lo(n:Nat):Nat->Prop:=fun b=>b<n
def GZ(a n:Nat):Nat->Prop:=fun b=>a<=b/\b<n
def off(a n:Nat)(v:Value):Nat->Prop:=fun b=>(a<=b/\b<n)/\b∉ag v
section
variable {n : Nat}
theorem cJ.on{w w':World}{p:Pn n}{u:Value}(h:cJ w (lo w.heap.size) n p u)(l:Below w.heap.size w w'):cJ w' (lo w'.heap.size) n p u:=cJ.carry (fun g j=>l.block g j) (fun _ j=>Nat.lt_of_lt_of_le j l.size) n p u h
theorem cJ.up{w:World}{S:Nat->Prop}{p:Pn n}{u:Value}(h:cJ w S n p u){S':Nat->Prop}(hS:∀g,S g->S' g):cJ w S' n p u:=cJ.carry (fun _ _=>rfl) hS n p u h
def qx(w:World)(S:Nat->Prop)(v:Value)(l:List (Br (Pn n))):Prop:=AB (cJ w S n) w S v l
theorem qx.carry{w w':World}{S S':Nat->Prop}{v:Value}{l:List (Br (Pn n))}(h:qx w S v l)(C:∀g,S g->w'.heap[g]?=w.heap[g]?)(j:∀g,S g->S' g):qx w' S' v l:=AB.carry h C j (fun b _ u hu=>cJ.carry C j n b.p u hu)
theorem qx.on{w w':World}{v:Value}{l:List (Br (Pn n))}(h:qx w (lo w.heap.size) v l)(C:Below w.heap.size w w'):qx w' (lo w'.heap.size) v l:=h.carry (fun g j=>C.block g j) (fun _ j=>Nat.lt_of_lt_of_le j C.size)
structure kY(w:World)(base:Nat)(v:Value)(l:List (BV n)):Prop where
 own:w.ownsRow base 341 3 v l.length (l.flatMap BV.cells)
 E0:∀x∈l,cJ w (off base w.heap.size v) n x.b.p x.u
theorem kY.aB{w w':World}{base:Nat}{v:Value}{l:List (BV n)}(h:kY w base v l)(C:Below w.heap.size w w'):kY w' base v l:=⟨aQ h.own C,fun x I=>cJ.carry (fun g j=>C.block g j.1.2) (fun _ j=>⟨⟨j.1.1,Nat.lt_of_lt_of_le j.1.2 C.size⟩,j.2⟩) _ _ _ (h.E0 x I)⟩
theorem kY.nil(w:World)(base:Nat):kY w base (.slice none 0 0) ([]:List (BV n)):=⟨de _ _ _ _,fun x j=>by cases j⟩
theorem kY.sl{w:World}{base:Nat}{v:Value}{l:List (BV n)}(h:kY w base v l):qx w (GZ base w.heap.size) v (l.map BV.b):=by
 rcases h.own.2 with⟨rfl,h0⟩|⟨g,cap,ab,rfl,R,I,hc,hm,_⟩;·have e:l=[]:=List.length_eq_zero_iff.1 h0;subst e;exact⟨none,0,rfl,Nat.le_refl _,Nat.zero_le _,fun T=>absurd rfl T⟩
 ·refine⟨some ⟨g,0,none⟩,cap,by rw[List.length_map],by rw[List.length_map];exact hc,hm,fun _=>⟨g,0,rfl,⟨R,(Array.getElem?_eq_some_iff.1 I).1⟩,fun i b C=>?_⟩⟩;rw[List.getElem?_map]at C;cases U:l[i]? with|none=>rw[U]at C;cases C|some x=>rw[U]at C;simp only[Option.map_some,Option.some.injEq]at C;subst C;obtain⟨J,P⟩:=List.getElem?_eq_some_iff.1 U;have e:=fun j(hj:j<3)(y:Value)(hy:(x.cells)[j]?=some y)=>cQ h.own rfl (i*3+j) y ((dQ BV.cells 3 BV.bg l i J j hj).trans (by rw[P];exact hy));rw[Nat.zero_add];exact⟨e 0 (by omega) _ rfl,e 1 (by omega) _ rfl,x.u,e 2 (by omega) _ rfl,(h.E0 x (by rw[<-P];exact List.getElem_mem J)).up (fun _ R=>R.1)⟩
theorem uv{w:World}{S:Nat->Prop}{x:BV n}(h:cJ w S n x.b.p x.u):∀u∈x.cells,u.oneCell'=true:=by
 intro u hu;simp[BV.cells]at hu;rcases hu with rfl|rfl|rfl;·rfl
 ·rfl
 ·exact h.one
theorem Fh{w P:World}{base:Nat}{v R:Value}{l:List (BV n)}(h:kY w base v l)(x:BV n)(hx:cJ w (off base w.heap.size v) n x.b.p x.u)(o:Obj)(I:P.ownsRow base 341 3 R (l.length+1) (l.flatMap BV.cells++x.cells))(j:(w.alloc o).grownBy P v.ownBlock)(U:R.ownBlock=v.ownBlock\/R.ownBlock=some (w.alloc o).heap.size):kY P base R (l++[x])/\aG w P (ag v):=by
 obtain⟨p,c,hv⟩:=ar h.own;obtain⟨p',c',ab⟩:=ar I;have T:aG w P (ag v):=by rw[hv]at j|-;have:=(aj (ae w o)).trans (aD j);rwa[List.nil_append]at this
 have key:∀{q:Pn n}{u:Value},cJ w (off base w.heap.size v) n q u->cJ P (off base P.heap.size R) n q u:=fun hq=>cJ.carry (fun g j=>T.block g j.1.2 j.2) (fun g j=>⟨⟨j.1.1,Nat.lt_of_lt_of_le j.1.2 T.size⟩,fun hm=>by
  have C:=(aS ab).2 hm;rcases U with e|e;·rw[e]at C;exact j.2 ((aS hv).1 C)
  ·rw[e]at C;have:=j.1.2;simp at C;omega⟩) _ _ _ hq;refine⟨⟨?_,fun y J=>?_⟩,T⟩;·rw[List.length_append,List.length_singleton,List.flatMap_append];simpa using I
 ·rw[List.mem_append]at J;rcases J with J|J;·exact key (h.E0 y J)
  ·simp at J;subst J;exact key hx
theorem cJ.wide{w:World}{a j m:Nat}{p:Pn n}{u:Value}(h:cJ w (GZ a m) n p u)(C:j<=a):cJ w (GZ j m) n p u:=h.up (fun _ l=>⟨Nat.le_trans C l.1,l.2⟩)
theorem qx.wide{w:World}{a j m:Nat}{v:Value}{l:List (Br (Pn n))}(h:qx w (GZ a m) v l)(I:j<=a):qx w (GZ j m) v l:=h.carry (fun _ _=>rfl) (fun _ C=>⟨Nat.le_trans I C.1,C.2⟩)
end
theorem fO(w:World)(cs:List Value)(t:TypeId)(b:Nat)(l:b=w.heap.size)(j:Nat)(u:Value)(h:cs[j]?=some u):(w.alloc (.cells cs.toArray t)).cell? (Addr.add ⟨b,0,none⟩ j)=some u:=by subst l;exact eG w cs t j u h
theorem Tryz.uD:(Tryz.prog.info? 341).map (fun i=>(i.zero,i.size,i.bytes))=some (some (.agg #[.string ByteArray.empty,.int .i64 0,.nilIface]),3,40):=by kernel_rfl
theorem rQ(x:Option ByteArray):0<(bO x).length:=by cases x<;>simp[bO]
theorem dc:∀(n:Nat)(p:Pn n),0<(aw n p).length|0,p=>rQ p|n+1,p=>Pn.cases (P:=fun p=>0<(aw (n+1) p).length) (fun x=>rQ x) (fun x q=>by rw[cO];simp) (fun t l=>by rw[bI];simp) p
end
