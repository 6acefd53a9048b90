import Derived.Test.YtdiiiijkhpdcbaaGreatDoorRD11
import Derived.Maps.AppendAt
namespace Go.Proofs.YtdiiiijkhpdcbaaGreatDoor
open Go.RowKit
set_option linter.unusedSimpArgs false
set_option linter.unusedVariables false
set_option maxHeartbeats 1000000
set_option maxRecDepth 100000
def eS(w:World)(v:Value)(ls:List ByteArray):Prop:=∃b o cap,v=.slice (some ⟨b,o,none⟩) ls.length cap∧ls.length≤cap∧cap≤maxLen∧∀i(h:i<ls.length),w.cell? ⟨b,o+i,none⟩=some (.string ls[i])
def iy(s t:ByteArray):Bool:=Op.bytesLess s.toList t.toList
def gS:List ByteArray→ByteArray→Nat|[],_=>0|s::ls,t=>if iy s t then gS ls t+1 else 0
def di(ls:List ByteArray)(t:ByteArray):List ByteArray:=if b8 ((ls.drop (gS ls t)).take 1) t then ls else ls.take (gS ls t)++[t]++ls.drop (gS ls t)
theorem rR:∀(ls:List ByteArray)(t:ByteArray)(k:Nat),k≤ls.length→(∀j(h:j<ls.length),j<k→iy ls[j] t=true)→(∀h:k<ls.length,iy ls[k] t=false)→gS ls t=k|[],t,k,l,_,_=>by simp at l;subst l;rfl|s::ls,t,0,_,_,h2=>by have:=h2 (by simp);simp at this;simp[gS,this]|s::ls,t,k+1,l,I,h2=>by have C:=I 0 (by simp) (by omega);simp at C;have ih:=rR ls t k (by simpa using l) (fun j h J=>by have:=I (j+1) (by simpa using h) (by omega);simpa using this) (fun h=>by have:=h2 (by simpa using h);simpa using this);rw[gS,if_pos C,ih]
theorem Du{ls:List ByteArray}{t:ByteArray}{k:Nat}(C:gS ls t=k)(l:k<ls.length)(j:(ls[k].toList==t.toList)=true):di ls t=ls:=by
 have e:(ls.drop k).take 1=[ls[k]]:=by rw[List.drop_eq_getElem_cons l];rfl
 rw[di,C,e,if_pos];simp only[b8,List.any_cons,List.any_nil,Bool.or_false];exact j
theorem zM{ls:List ByteArray}{t:ByteArray}{k:Nat}(C:gS ls t=k)(l:∀j:k<ls.length,(ls[k].toList==t.toList)=false):di ls t=ls.take k++[t]++ls.drop k:=by
 rw[di,C,if_neg];by_cases j:k<ls.length;·
  have e:(ls.drop k).take 1=[ls[k]]:=by rw[List.drop_eq_getElem_cons j];rfl
  rw[e];simp only[b8,List.any_cons,List.any_nil,Bool.or_false,l j];decide
 ·rw[List.drop_of_length_le (by omega)];simp[b8]
theorem kH{w:World}{base e:Nat}{v:Value}{ls:List ByteArray}(h:w.ownsRow base e 1 v ls.length (ls.map Value.string))(J:ls≠[]):eS w v ls:=by
 obtain⟨_,hv⟩:=h;rcases hv with⟨rfl,P⟩|⟨g,cap,j,rfl,hg,T,U,C,ab,l⟩;·exact absurd (List.length_eq_zero_iff.1 P) J
 ·refine⟨g,0,cap,rfl,U,C,fun i hi=>?_⟩;have R:j.toList[i]?=some (.string ls[i]):=by
   have I:(j.toList.take (ls.length*1))[i]?=(ls.map Value.string)[i]?:=by rw[l]
   rw[List.getElem?_take,if_pos (by omega)]at I;rw[I];simp[hi]
  have I:j[i]?=some (.string ls[i]):=by rw[←R];simp
  simp only[World.cell?,T];simpa using I
theorem zQ(ls:List ByteArray)(t:ByteArray)(v:Value)(w:World)(hv:eS w v ls)(hl:ls.length≤100):Calls Tryz.prog 124 #[v,.string t] w fun e w'=>∃v',e=.returned v'∧eS w' v' (di ls t)∧Below w.heap.size w w':=by
 have HV:=aa hv;obtain⟨b,o,cap,rfl,hc,hm,aq⟩:=hv;obtain⟨i0,hi,a2,ao,af⟩:=info_parts Tryz.lh;have P:=aa (And.intro hi (And.intro a2 (And.intro ao af)));have HC:=aa aq;have HM:=aa hm;clear aq hm hi a2 ao af;go_enter Tryz.func124,Tryz.ntmps124;go_wp2_with fail;go_loop[5](fun i=>∃k:Nat,k≤ls.length∧i=.int .i64 k∧∀j(h:j<ls.length),j<k→iy ls[j] t=true)(fun i=>ls.length-(intOf i).toNat);case atStart=>exact⟨0,Nat.zero_le _,rfl,fun j _ h=>absurd h (by omega)⟩
 case round=>
  obtain⟨k,hk,rfl,aN⟩:=hrel;have HA:=aa aN;clear aN;by_cases aM:k<ls.length;·
   have a4:=HC.out k aM;obtain⟨s,hs⟩:∃s,s=ls[k]:=⟨_,rfl⟩;rw[←hs]at a4;have aL:=aa hs;clear hs;cases av:Op.bytesLess s.toList t.toList;·
    have a0:=aa (show iy ls[k] t=false by rw[←aL.out];exact av);have ay:=aa (rR ls t k hk HA.out (fun _=>a0.out));cases heq:(s.toList==t.toList);·
     have az:=aa (zM ay.out (fun _=>by rw[←aL.out];exact heq));have ah:Hid (∀W',Below w.heap.size w W'→∀j u,((ls.take k).map Value.string)[j]?=some u→W'.cell? ((⟨b,o,none⟩:Addr).add j)=some u):=aa (fun W' hb j u h=>lN (ls:=ls.take k) (fun i hi=>by rw[List.getElem_take];exact HC.out i (by simp at hi;omega)) hb j u h);by_cases aR:cap=k;·exfalso;omega
     ·have a1:Hid (∀W',Below w.heap.size w W'→∀j u,((ls.drop k).map Value.string)[j]?=some u→W'.cell? ((⟨b,o+k,none⟩:Addr).add j)=some u):=aa (fun W' hb j u h=>lN (ls:=ls.drop k) (fun i hi=>by rw[List.getElem_drop,Nat.add_assoc];exact HC.out (k+i) (by simp at hi;omega)) hb j u h);go_wp2_with(first|(at_builtin;refine wpList_append_own _ rfl (.tmp 34) (.tmp 37) 42 rfl w.heap.size 9 i0 (.string ByteArray.empty) 1 16 Tryz.underlying42 P.out.1 P.out.2.1 P.out.2.2.1 P.out.2.2.2 rfl (by decide) (.slice (some ⟨w.heap.size,0,none⟩) 0 0) 0 [] rfl (dE _ _ _ _ (Nat.le_refl _) (cG _ _ _ rfl)) ⟨b,o,none⟩ k cap ((ls.take k).map Value.string) rfl (by first|(simp;done)|(simp;omega)) (ah.out _ (aE _ _)) (fT _) (by unfold maxLen;omega) (by omega) (by simp) ?_;intro v1 w1 l C _;simp only[Nat.zero_add,List.nil_append]at l;have ac:=aa l;have ab:Hid (Below w.heap.size w w1):=aa ((aE _ _).grown C (by simp) (by intro k hk;simp[Value.ownBlock]at hk;omega));have ao:w.heap.size≤w1.heap.size:=ab.out.size;clear l C)|(at_builtin;refine wpList_append_own _ rfl (.tmp 39) (.tmp 41) 42 rfl w.heap.size 9 i0 (.string ByteArray.empty) 1 16 Tryz.underlying42 P.out.1 P.out.2.1 P.out.2.2.1 P.out.2.2.2 rfl (by decide) v1 k ((ls.take k).map Value.string) rfl (ac.out.alloc _) ⟨w1.heap.size,0,none⟩ 1 1 [.string t] rfl rfl (fR (dg _ _ _ _ rfl)) (one_cell _) (by unfold maxLen;omega) (by omega) (by first|(simp;done)|(simp;omega)) ?_;intro v2 w2 R I _;have ad:=aa R;have U:Hid (Below w.heap.size w w2):=aa ((ab.out.alloc ao _).grown I (by first|(simp;done)|(simp;omega)) (eG ac.out));have af:w.heap.size≤w2.heap.size:=U.out.size;clear R I)|(at_builtin;refine wpList_append_own _ rfl (.tmp 43) (.tmp 46) 42 rfl w.heap.size 9 i0 (.string ByteArray.empty) 1 16 Tryz.underlying42 P.out.1 P.out.2.1 P.out.2.2.1 P.out.2.2.2 rfl (by decide) v2 (k+1) ((ls.take k).map Value.string++[.string t]) rfl ad.out ⟨b,o+k,none⟩ (ls.length-k) (cap-k) ((ls.drop k).map Value.string) rfl (by simp) (a1.out _ U.out) (fT _) (by unfold maxLen;omega) (by omega) af ?_;intro v3 w3 T J _;have an:=aa T;have al:Hid (Below w.heap.size w w3):=aa (U.out.grown J af (eG ad.out));clear T J));go_ret;refine⟨_,rfl,?_,al.out⟩;rw[az.out];refine kH (base:=w.heap.size) (e:=9) ?_ (by simp);have:=an.out;have ax:k+1+(ls.length-k)=(ls.take k++[t]++ls.drop k).length:=by simp;omega
      rw[ax]at this;simpa using this
    ·have a3:=aa (Du ay.out aM (by rw[←aL.out];exact heq));go_wp2_with fail;go_ret;exact⟨_,rfl,by rw[a3.out];exact HV.out,Below.refl _ _⟩
   ·have a0:=aa (show iy ls[k] t=true by rw[←aL.out];exact av);go_wp2_with fail;go_round;case rel=>
     exact⟨k+1,by omega,by go_num,fun j h hj=>by
      rcases Nat.lt_or_ge j k with h1|h1;·exact HA.out j h h1
      ·have:j=k:=by omega
       subst this;exact a0.out⟩
    case measure=>simp[intOf];omega
  ·have ay:=aa (rR ls t k hk HA.out (fun h=>absurd h aM));have az:=aa (zM ay.out (fun h=>absurd h aM));obtain rfl:k=ls.length:=by omega
   have ah:Hid (∀W',Below w.heap.size w W'→∀j u,((ls.take ls.length).map Value.string)[j]?=some u→W'.cell? ((⟨b,o,none⟩:Addr).add j)=some u):=aa (fun W' hb j u h=>lN (ls:=ls.take ls.length) (fun i hi=>by rw[List.getElem_take];exact HC.out i (by simp at hi;omega)) hb j u h);by_cases aR:cap=ls.length;·
    subst aR;go_wp2_with(first|(at_builtin;refine wpList_append_own _ rfl (.tmp 34) (.tmp 37) 42 rfl w.heap.size 9 i0 (.string ByteArray.empty) 1 16 Tryz.underlying42 P.out.1 P.out.2.1 P.out.2.2.1 P.out.2.2.2 rfl (by decide) (.slice (some ⟨w.heap.size,0,none⟩) 0 0) 0 [] rfl (dE _ _ _ _ (Nat.le_refl _) (cG _ _ _ rfl)) ⟨b,o,none⟩ ls.length ls.length ((ls.take ls.length).map Value.string) rfl (by first|(simp;done)|(simp;omega)) (ah.out _ (aE _ _)) (fT _) (by unfold maxLen;omega) (by omega) (by simp) ?_;intro v1 w1 l C _;simp only[Nat.zero_add,List.nil_append]at l;have ac:=aa l;have ab:Hid (Below w.heap.size w w1):=aa ((aE _ _).grown C (by simp) (by intro k hk;simp[Value.ownBlock]at hk;omega));have ao:w.heap.size≤w1.heap.size:=ab.out.size;clear l C)|(at_builtin;refine wpList_append_own _ rfl (.tmp 39) (.tmp 41) 42 rfl w.heap.size 9 i0 (.string ByteArray.empty) 1 16 Tryz.underlying42 P.out.1 P.out.2.1 P.out.2.2.1 P.out.2.2.2 rfl (by decide) v1 ls.length ((ls.take ls.length).map Value.string) rfl (ac.out.alloc _) ⟨w1.heap.size,0,none⟩ 1 1 [.string t] rfl rfl (fR (dg _ _ _ _ rfl)) (one_cell _) (by unfold maxLen;omega) (by omega) (by first|(simp;done)|(simp;omega)) ?_;intro v2 w2 R I _;have ad:=aa R;have U:Hid (Below w.heap.size w w2):=aa ((ab.out.alloc ao _).grown I (by first|(simp;done)|(simp;omega)) (eG ac.out));have af:w.heap.size≤w2.heap.size:=U.out.size;clear R I)|(at_builtin;refine wpList_append_own _ rfl (.tmp 43) (.tmp 46) 42 rfl w.heap.size 9 i0 (.string ByteArray.empty) 1 16 Tryz.underlying42 P.out.1 P.out.2.1 P.out.2.2.1 P.out.2.2.2 rfl (by decide) v2 (ls.length+1) ((ls.take ls.length).map Value.string++[.string t]) rfl ad.out ⟨b,o,none⟩ 0 0 [] rfl rfl (fun j u h=>by simp at h) (fun u h=>by simp at h) (by unfold maxLen;omega) (by omega) af ?_;intro v3 w3 T J _;have an:=aa T;have al:Hid (Below w.heap.size w w3):=aa (U.out.grown J af (eG ad.out));clear T J));go_ret;refine⟨_,rfl,?_,al.out⟩;rw[az.out];refine kH (base:=w.heap.size) (e:=9) ?_ (by simp);have:=an.out;have ax:ls.length+1+0=(ls.take ls.length++[t]++ls.drop ls.length).length:=by simp
    rw[ax]at this;simpa using this
   ·go_wp2_with(first|(at_builtin;refine wpList_append_own _ rfl (.tmp 34) (.tmp 37) 42 rfl w.heap.size 9 i0 (.string ByteArray.empty) 1 16 Tryz.underlying42 P.out.1 P.out.2.1 P.out.2.2.1 P.out.2.2.2 rfl (by decide) (.slice (some ⟨w.heap.size,0,none⟩) 0 0) 0 [] rfl (dE _ _ _ _ (Nat.le_refl _) (cG _ _ _ rfl)) ⟨b,o,none⟩ ls.length cap ((ls.take ls.length).map Value.string) rfl (by first|(simp;done)|(simp;omega)) (ah.out _ (aE _ _)) (fT _) (by unfold maxLen;omega) (by omega) (by simp) ?_;intro v1 w1 l C _;simp only[Nat.zero_add,List.nil_append]at l;have ac:=aa l;have ab:Hid (Below w.heap.size w w1):=aa ((aE _ _).grown C (by simp) (by intro k hk;simp[Value.ownBlock]at hk;omega));have ao:w.heap.size≤w1.heap.size:=ab.out.size;clear l C)|(at_builtin;refine wpList_append_own _ rfl (.tmp 39) (.tmp 41) 42 rfl w.heap.size 9 i0 (.string ByteArray.empty) 1 16 Tryz.underlying42 P.out.1 P.out.2.1 P.out.2.2.1 P.out.2.2.2 rfl (by decide) v1 ls.length ((ls.take ls.length).map Value.string) rfl (ac.out.alloc _) ⟨w1.heap.size,0,none⟩ 1 1 [.string t] rfl rfl (fR (dg _ _ _ _ rfl)) (one_cell _) (by unfold maxLen;omega) (by omega) (by first|(simp;done)|(simp;omega)) ?_;intro v2 w2 R I _;have ad:=aa R;have U:Hid (Below w.heap.size w w2):=aa ((ab.out.alloc ao _).grown I (by first|(simp;done)|(simp;omega)) (eG ac.out));have af:w.heap.size≤w2.heap.size:=U.out.size;clear R I)|(at_builtin;refine wpList_append_own _ rfl (.tmp 43) (.tmp 46) 42 rfl w.heap.size 9 i0 (.string ByteArray.empty) 1 16 Tryz.underlying42 P.out.1 P.out.2.1 P.out.2.2.1 P.out.2.2.2 rfl (by decide) v2 (ls.length+1) ((ls.take ls.length).map Value.string++[.string t]) rfl ad.out ⟨b,o+ls.length,none⟩ 0 (cap-ls.length) [] rfl rfl (fun j u h=>by simp at h) (fun u h=>by simp at h) (by unfold maxLen;omega) (by omega) af ?_;intro v3 w3 T J _;have an:=aa T;have al:Hid (Below w.heap.size w w3):=aa (U.out.grown J af (eG ad.out));clear T J));go_ret;refine⟨_,rfl,?_,al.out⟩;rw[az.out];refine kH (base:=w.heap.size) (e:=9) ?_ (by simp);have:=an.out;have ax:ls.length+1+0=(ls.take ls.length++[t]++ls.drop ls.length).length:=by simp
    rw[ax]at this;simpa using this
def e9(j:List ByteArray)(n:Nd):List ByteArray:=let a:=if n.op==3 then di j n.name else j;if n.peer.toList==[]then a else di a n.peer
def aY(ns:List Nd):List ByteArray:=ns.foldl e9 []
theorem nO(ls:List ByteArray)(t:ByteArray):(di ls t).length≤ls.length+1:=by
 rw[di];split;·omega
 ·simp;omega
theorem yd{ns:List Nd}{k:Nat}(h:k<ns.length):(ns.take (k+1)).foldl e9 []=e9 ((ns.take k).foldl e9 []) ns[k]:=by rw[List.take_succ_eq_append_getElem h,List.foldl_append];rfl
theorem eS.carry{w w':World}{v:Value}{ls:List ByteArray}(h:eS w v ls)(J:Below w.heap.size w w'):eS w' v ls:=by obtain⟨b,o,cap,l,C,I,j⟩:=h;exact⟨b,o,cap,l,C,I,fun i hi=>(J.cell (p:=⟨b,_,none⟩) (World.block_lt_of_cell? w _ (j i hi))).trans (j i hi)⟩
theorem qq(ns:List Nd)(v:Value)(w:World)(hv:bF w w.heap.size v ns)(hl:ns.length≤40):Calls Tryz.prog 68 #[v] w fun e w'=>∃v',e=.returned v'∧eS w' v' (aY ns)∧Below w.heap.size w w':=by
 obtain⟨ao,cap,rfl,hc,hm,hr⟩:=hv;have HR:=aa hr;clear hr;go_enter Tryz.func68,Tryz.ntmps68;go_wp2_with fail;go_loopw[3,4](fun out i wr=>∃k:Nat,k≤ns.length∧i=.int .i64 k∧eS wr out ((ns.take k).foldl e9 [])∧((ns.take k).foldl e9 []).length≤2*k∧Below w.heap.size w wr)(fun _ i _=>ns.length-(intOf i).toNat);case atStart=>exact⟨0,Nat.zero_le _,rfl,⟨w.heap.size,0,0,rfl,Nat.le_refl _,by unfold maxLen;omega,fun i h=>absurd h (by simp)⟩,by simp,aE _ _⟩
 case round=>
  obtain⟨k,hk,rfl,l,a8,af⟩:=hrel;obtain⟨j,ad⟩:∃j,j=(ns.take k).foldl e9 []:=⟨_,rfl⟩;rw[←ad]at l a8;have T:=aa ad;have ac:=aa l;have J:=aa af;have al:=af.size;clear ad af;obtain⟨b1,o1,bb,rfl,a2⟩:=l;clear a2;by_cases ay:k<ns.length;·
   obtain⟨b,o,rfl,a5,ax⟩:=HR.out (by intro h;simp[h]at ay);have P:=(ax.get k ay).carry a5 J.out;obtain⟨C,az⟩:∃C,C=ns[k]:=⟨_,rfl⟩;rw[←az]at P;have HN:=aa (show(ns.take (k+1)).foldl e9 []=e9 j C by rw[yd ay,T.out,az]);have aM:=aa P;clear az ax;have aR:b<wr.heap.size:=P.lt;obtain⟨c0,c1,c2,c3,c4⟩:=P;obtain⟨aL,a0⟩:∃aL,(C.op==3)=aL:=⟨_,rfl⟩;obtain⟨pe,a6⟩:∃pe,(C.peer.toList==[])=pe:=⟨_,rfl⟩;have an:=aa a0;have aq:=aa a6;cases aL;·
    cases pe;·
     go_wp2_with(go_at_call 124;refine(zQ j C.peer _ _ ac.out (by omega)).mono ?_;rintro e w1⟨v1,rfl,R,I⟩;have ab:=aa R;obtain⟨b2,o2,av,rfl,ah⟩:=R;have U:=aa I;clear ah I);go_roundw;case rel=>
      have l:e9 j C=di j C.peer:=by simp[e9,an.out,aq.out]
      refine⟨k+1,by omega,by go_num,by rw[HN.out,l];exact ab.out,by rw[HN.out,l];have:=nO j C.peer;omega,J.out.trans (U.out.mono al)⟩
     case measure=>simp[intOf];omega
    ·go_wp2_with fail;go_roundw;case rel=>
      have l:e9 j C=j:=by simp[e9,an.out,aq.out]
      refine⟨k+1,by omega,by go_num,by rw[HN.out,l];exact ac.out,by rw[HN.out,l];omega,J.out⟩
     case measure=>simp[intOf];omega
   ·cases pe;·
     go_wp2_with(first|(go_at_call_of 124 C.peer;refine(zQ (di j C.name) C.peer _ _ ab.out (by have:=nO j C.name;omega)).mono ?_;rintro e w2⟨v2,rfl,a1,aN⟩;have a4:=aa a1;obtain⟨b3,o3,bf,rfl,a7⟩:=a1;have a3:=aa aN;clear a7 aN)|(go_at_call_of 124 C.name;refine(zQ j C.name _ _ ac.out (by omega)).mono ?_;rintro e w1⟨v1,rfl,R,I⟩;have ab:=aa R;obtain⟨b2,o2,av,rfl,ah⟩:=R;have a9:=I.size;obtain⟨d0,d1,d2,d3,d4⟩:=aM.out.carry aR I;have U:=aa I;clear ah I));go_roundw;case rel=>
      have l:e9 j C=di (di j C.name) C.peer:=by simp[e9,an.out,aq.out]
      refine⟨k+1,by omega,by go_num,by rw[HN.out,l];exact a4.out,by rw[HN.out,l];have:=nO j C.name;have:=nO (di j C.name) C.peer;omega,J.out.trans ((U.out.mono al).trans (a3.out.mono (by omega)))⟩
     case measure=>simp[intOf];omega
    ·go_wp2_with(go_at_call 124;refine(zQ j C.name _ _ ac.out (by omega)).mono ?_;rintro e w1⟨v1,rfl,R,I⟩;have ab:=aa R;obtain⟨b2,o2,av,rfl,ah⟩:=R;have a9:=I.size;obtain⟨d0,d1,d2,d3,d4⟩:=aM.out.carry aR I;have U:=aa I;clear ah I);go_roundw;case rel=>
      have l:e9 j C=di j C.name:=by simp[e9,an.out,aq.out]
      refine⟨k+1,by omega,by go_num,by rw[HN.out,l];exact ab.out,by rw[HN.out,l];have:=nO j C.name;omega,J.out.trans (U.out.mono al)⟩
     case measure=>simp[intOf];omega
  ·go_wp2_with fail;go_ret;refine⟨_,rfl,?_,J.out⟩;have:=ac.out;rw[T.out,List.take_of_length_le (by omega)]at this;have e:j.length=((ns.take k).foldl e9 []).length:=by rw[T.out]
   rw[e,List.take_of_length_le (by omega)];exact this
theorem jN{a b:ByteArray}(h:a.toList=b.toList):a=b:=by rw[Go.ByteArray.toList_eq,Go.ByteArray.toList_eq]at h;apply ByteArray.ext;exact Array.ext' h
theorem jB{ls:List ByteArray}{t:ByteArray}:b8 ls t=true↔t∈ls:=by
 rw[b8,List.any_eq_true];constructor;·rintro⟨s,l,j⟩;rw[beq_iff_eq]at j;rwa[←jN j]
 ·intro h;exact⟨t,h,by simp⟩
theorem zx:∀(x y:List UInt8),Op.bytesLess x y=decide (x<y)|[],[]=>by simp[Op.bytesLess]|_::_,[]=>by simp[Op.bytesLess]|[],_::_=>by simp[Op.bytesLess]|a::x,b::y=>by rw[Op.bytesLess,zx x y];simp only[List.cons_lt_cons_iff];by_cases j:a<b<;>by_cases l:a=b<;>by_cases C:x<y<;>simp[j,l,C]
theorem nB(s t:ByteArray):iy s t=true↔s.toList<t.toList:=by rw[iy,zx];simp
theorem rB(s:ByteArray):¬iy s s=true:=by rw[nB];exact List.lt_irrefl _
theorem xL{s t u:ByteArray}(h:iy s t=true)(j:iy t u=true):iy s u=true:=by rw[nB]at*;exact List.lt_trans h j
theorem CO{s t:ByteArray}(h:¬iy s t=true)(C:s≠t):iy t s=true:=by
 rw[nB]at*;have l:t.toList≤s.toList:=List.not_lt.1 h;by_cases j:t.toList<s.toList;·exact j
 ·exact absurd (jN (List.le_antisymm (List.not_lt.1 j) l)) C
theorem nK(s:ByteArray)(ls:List ByteArray)(t:ByteArray):di (s::ls) t=if iy s t then s::di ls t else if s.toList==t.toList then s::ls else t::s::ls:=by
 by_cases h:iy s t=true;·rw[if_pos h,di,gS,if_pos h,di,List.drop_succ_cons,List.take_succ_cons];split<;>simp
 ·rw[if_neg h,di,gS,if_neg h];simp[b8]
def jw(ls:List ByteArray):Prop:=ls.Pairwise fun a b=>iy a b=true
theorem zL{ls:List ByteArray}{t u:ByteArray}(h:u∈di ls t):u∈ls∨u=t:=by
 induction ls with
  |nil=>simp[di,gS,b8]at h;exact .inr h|cons s ls ih=>
   rw[nK]at h;split at h;·
    rcases List.mem_cons.1 h with h|h;·exact .inl (by simp[h])
    ·rcases ih h with h|h;·exact .inl (by simp[h])
     ·exact .inr h
   ·split at h;·exact .inl h
    ·rcases List.mem_cons.1 h with h|h;·exact .inr h
     ·exact .inl h
theorem ya{ls:List ByteArray}(I:jw ls)(t:ByteArray):jw (di ls t):=by
 induction ls with
  |nil=>simp[di,gS,b8,jw]|cons s ls ih=>
   obtain⟨J,P⟩:=List.pairwise_cons.1 I;rw[nK];split;·
    rename_i l;refine List.pairwise_cons.2 ⟨fun u hu=>?_,ih P⟩;rcases zL hu with h|h;·exact J u h
    ·rw[h];exact l
   ·rename_i l;split;·exact I
    ·rename_i R;have C:s≠t:=fun h=>R (by simp[h]);have j:=CO l C;refine List.pairwise_cons.2 ⟨fun u hu=>?_,I⟩;rcases List.mem_cons.1 hu with h|h;·rw[h];exact j
     ·exact xL j (J u h)
theorem G9{ls:List ByteArray}(I:jw ls){t:ByteArray}(j:t∈ls):di ls t=ls:=by
 induction ls with
  |nil=>cases j|cons s ls ih=>
   obtain⟨l,C⟩:=List.pairwise_cons.1 I;rw[nK];rcases List.mem_cons.1 j with h|h;·subst h;rw[if_neg (rB t),if_pos (by simp)]
   ·rw[if_pos (l t h),ih C h]
theorem Dt{ls:List ByteArray}{t:ByteArray}(j:¬t∈ls):(di ls t).Perm (t::ls):=by
 induction ls with
  |nil=>simp[di,gS,b8]|cons s ls ih=>
   rw[nK];split;·exact((ih (fun h=>j (List.mem_cons_of_mem _ h))).cons s).trans (List.Perm.swap _ _ _)
   ·rw[if_neg (fun h=>j (by rw[beq_iff_eq]at h;rw[jN h];simp))]
def fB(j:List ByteArray)(t:ByteArray):List ByteArray:=if b8 j t then j else j++[t]
theorem yT:∀(ts j l:List ByteArray),jw l→j.Perm l→jw (ts.foldl di l)∧(ts.foldl fB j).Perm (ts.foldl di l)
 |[],_,_,I,C=>⟨I,C⟩|t::ts,j,l,I,C=>by
  refine yT ts _ _ (ya I t) ?_;by_cases J:t∈j;·rw[fB,if_pos (jB.2 J),G9 I (C.mem_iff.1 J)];exact C
  ·rw[fB,if_neg (fun h=>J (jB.1 h))];exact(List.perm_append_singleton t j).trans ((C.cons t).trans (Dt (fun h=>J (C.mem_iff.2 h))).symm)
def bS(n:Nd):List ByteArray:=if n.op==3 then[n.name,n.peer]else if n.op==5||n.op==6 then[n.peer]else[]
def iG(j:List ByteArray)(n:Nd):List ByteArray:=(bS n).foldl fB j
def dX(ns:List Nd):List ByteArray:=ns.foldl iG []
theorem kf(ns:List Nd):dX ns=(ns.flatMap bS).foldl fB []:=by rw[dX,List.foldl_flatMap];rfl
def fW(T:Nd→Bool)(n:Nd):Bool:=gX n||mL n||iD n||eD n||(n.op !=0&&n.op !=1&&n.op !=2&&T n)
theorem rm{T:Nd→Bool}{go:List Nd→Option (List Nd)}(J:∀l r,go l=some r→∃p,l=p++r∧∀n∈p,fW T n=true):∀(m:Nat)(ls:List ByteArray)(l r:List Nd),bw go m ls l=some r→∃p,l=p++r∧∀n∈p,fW T n=true
 |0,_,l,r,h=>by cases h;exact⟨[],rfl,by simp⟩|_+1,_,[],r,h=>by cases h|m+1,ls,n::l,r,h=>by
  rw[bw]at h;split at h;·
   rename_i I;split at h;·cases h
   ·rename_i r' C;obtain⟨p1,P,U⟩:=J _ _ C;obtain⟨p2,R,h2⟩:=rm J m _ _ _ h;have j:eD n=true:=by simp at I;exact I.1
    refine⟨n::(p1++p2),by rw[P,R];simp,?_⟩;intro x hx;rcases List.mem_cons.1 hx with h|h;·subst h;simp[fW,j]
    ·rcases List.mem_append.1 h with h|h;·exact U x h
     ·exact h2 x h
  ·cases h
theorem vf(T:Nd→Bool):∀(f:Nat)(st l r:List Nd),ahead T f st l=some r→∃p,l=p++r∧∀n∈p,fW T n=true:=by
 intro f;induction f with
  |zero=>
   intro st l r h;cases l with
    |nil=>cases h|cons n l=>
     rw[ahead]at h;repeat' split at h
     all_goals first|(cases h;done)|(cases h;refine⟨[n],rfl,?_⟩;intro x j;simp at j;subst j;simp_all[fW])
  |succ f ih=>
   intro st l r h;cases l with
    |nil=>cases h|cons n l=>
     rw[ahead]at h;repeat' split at h
     all_goals
      first
       |(cases h;done)|(cases h;refine⟨[n],rfl,?_⟩;intro x j;simp at j;subst j;simp_all[fW];done)|
        (
         obtain⟨p,e,I⟩:=ih _ _ _ h;refine⟨n::p,by rw[e];rfl,?_⟩;intro x j;rcases List.mem_cons.1 j with C|C;·subst C;simp_all[fW]
         ·exact I x C)|
        (
         obtain⟨p,e,I⟩:=rm (ih _) _ _ _ _ h;refine⟨n::p,by rw[e];rfl,?_⟩;intro x j;rcases List.mem_cons.1 j with C|C;·subst C;simp_all[fW]
         ·exact I x C)
theorem rk{go j:List Nd→Option (List Nd)}:∀(m:Nat)(ls:List ByteArray)(l:List Nd),(∀l',l'<:+l→go l'=j l')→(∀l' r,go l'=some r→r<:+l')→bw go m ls l=bw j m ls l
 |0,_,l,_,_=>rfl|_+1,_,[],_,_=>rfl|m+1,ls,n::l,h,I=>by
  rw[bw,bw,←h l (List.suffix_cons _ _)];split;·cases J:go l with|none=>rfl|some r=>exact rk m _ r (fun l' C=>h l' (C.trans ((I _ _ J).trans (List.suffix_cons _ _)))) I
  ·rfl
theorem ve{T T':Nd→Bool}:∀(f:Nat)(st l:List Nd),(∀n∈l,T n=T' n)→ahead T f st l=ahead T' f st l:=by intro f;induction f with|zero=>intro st l _;cases l<;>rfl|succ f ih=>intro st l h;cases l with|nil=>rfl|cons n l=>rw[ahead,ahead,h n (by simp),ih (n::st) l (fun x C=>h x (List.mem_cons_of_mem _ C))];rw[rk n.many.toNat [] l (fun l' j=>ih (n::st) l' (fun x C=>h x (List.mem_cons_of_mem _ (j.subset C)))) (fa T f (n::st))]
theorem FV{t:ByteArray}(h:db t=true):¬t.toList=[]:=by
 intro e;simp only[db,b9,Bool.and_eq_true]at h;have j:1≤t.size:=by simpa using h.1.1.1
 rw[Go.ByteArray.toList_eq]at e;have l:t.data.size=0:=by simpa using congrArg List.length e
 have C:t.size=t.data.size:=rfl;omega
theorem DO{part:Bool}{n:Nd}(h:fW (bA part) n=true)(l:List ByteArray):e9 l n=(bS n).foldl di l:=by
 simp only[fW,Bool.or_eq_true]at h;rcases h with(((h|h)|h)|h)|h;·simp only[gX,Bool.and_eq_true,beq_iff_eq]at h;simp[e9,bS,h]
 ·simp only[mL,Bool.and_eq_true,beq_iff_eq]at h;simp[e9,bS,h]
 ·simp only[iD,Bool.and_eq_true,beq_iff_eq]at h;simp[e9,bS,h]
 ·simp only[eD,Bool.and_eq_true,beq_iff_eq]at h;simp[e9,bS,h]
 ·simp only[Bool.and_eq_true]at h;have j:=h.2;simp only[bA,Bool.and_eq_true]at j;have I:=FV j.1.1.1;cases part;·simp at j;simp[e9,bS,j,I]
  ·simp at j;rcases j.2.2 with C|C<;>simp[e9,bS,C,I]
theorem tS{part:Bool}{ns:List Nd}(h:∀n∈ns,fW (bA part) n=true):aY ns=(ns.flatMap bS).foldl di []:=by
 rw[aY,List.foldl_flatMap];have:∀(l:List Nd)(j:List ByteArray),(∀n∈l,fW (bA part) n=true)→l.foldl e9 j=l.foldl (fun j n=>(bS n).foldl di j) j:=by intro l;induction l with|nil=>intro j _;rfl|cons n l ih=>intro j h;rw[List.foldl_cons,List.foldl_cons,DO (h n (by simp)),ih _ (fun x C=>h x (List.mem_cons_of_mem _ C))]
 exact this ns [] h
theorem gm{part:Bool}{ns:List Nd}(h:∀n∈ns,fW (bA part) n=true):jw (aY ns)∧(dX ns).Perm (aY ns):=by rw[tS h,kf];exact yT _ [] [] List.Pairwise.nil (List.Perm.refl _)
def cE(part:Bool)(l:List Nd):Bool:=decide (l.length≤40)&&((ahead (bA part) 10 [] l).map List.length==some 0&&decide ((aY l).length≤4))
def fJ(part:Bool)(n:Nd):Bool:=if part then n.op==3 else n.op==5||n.op==6
def Bi(l:List Nd):Bool:=decide (l.length≤40)&&((ahead ei 10 [] l).map List.length==some 0&&decide ((dX l).length≤4))
theorem jS{T:Nd→Bool}{f:Nat}{l:List Nd}(h:((ahead T f [] l).map List.length==some 0)=true):∀n∈l,fW T n=true:=by cases j:ahead T f [] l with|none=>rw[j]at h;cases h|some r=>rw[j]at h;simp at h;obtain⟨p,e,C⟩:=vf T f [] l r j;rw[h,List.append_nil]at e;rw[e];exact C
theorem xV{part:Bool}{n:Nd}(h:fW (bA part) n=true):fJ part n=false:=by
 simp only[fW,Bool.or_eq_true]at h;rcases h with(((h|h)|h)|h)|h;·simp only[gX,Bool.and_eq_true,beq_iff_eq]at h;cases part<;>simp[fJ,h]
 ·simp only[mL,Bool.and_eq_true,beq_iff_eq]at h;cases part<;>simp[fJ,h]
 ·simp only[iD,Bool.and_eq_true,beq_iff_eq]at h;cases part<;>simp[fJ,h]
 ·simp only[eD,Bool.and_eq_true,beq_iff_eq]at h;cases part<;>simp[fJ,h]
 ·simp only[Bool.and_eq_true]at h;have j:=h.2;simp only[bA,Bool.and_eq_true]at j;cases part;·simp at j;simp[fJ,j]
  ·simp at j;rcases j.2.2 with l|l<;>simp[fJ,l]
theorem Bz{part:Bool}{n:Nd}(h:fJ part n=false):ei n=bA part n:=by
 simp only[ei,bA,mJ];cases part;·
  have l:(n.op==5)=false:=by cases e:(n.op==5)<;>simp_all[fJ]
  have C:(n.op==6)=false:=by cases e:(n.op==6)<;>simp_all[fJ]
  rw[l,C];cases(n.op==3)<;>cases db n.peer<;>cases jg n.many<;>cases db n.name<;>cases(n.sort==0)<;>rfl
 ·have j:(n.op==3)=false:=by cases e:(n.op==3)<;>simp_all[fJ]
  rw[j];cases db n.peer<;>cases jg n.many<;>cases(n.sort==0)<;>cases(n.op==5)<;>cases(n.op==6)<;>cases(n.name.toList==[])<;>rfl
theorem wR(part:Bool)(l:List Nd):(Bi l&&!(l.any (fJ part)))=cE part l:=by
 rw[Bi,cE];cases J:l.any (fJ part);·
  have I:∀n∈l,fJ part n=false:=by intro n j;rw[←Bool.not_eq_true];intro h;have:l.any (fJ part)=true:=List.any_eq_true.2 ⟨n,j,h⟩;rw[J]at this;cases this
  rw[ve (T':=bA part) 10 [] l (fun n j=>Bz (I n j))];cases ha:((ahead (bA part) 10 [] l).map List.length==some 0);·simp
  ·rw[((gm (jS ha)).2).length_eq];simp
 ·cases ha:((ahead (bA part) 10 [] l).map List.length==some 0);·simp
  ·exfalso;obtain⟨n,j,C⟩:=List.any_eq_true.1 J;rw[xV (jS ha n j)]at C;cases C
theorem Ep(ls:List ByteArray)(t:ByteArray):(fB ls t).length≤ls.length+1:=by rw[fB];split<;>simp
theorem pJ{ns:List Nd}{k:Nat}(h:k<ns.length):(ns.take (k+1)).foldl iG []=iG ((ns.take k).foldl iG []) ns[k]:=by rw[List.take_succ_eq_append_getElem h,List.foldl_append];rfl
theorem qS{ts:List ByteArray}{k:Nat}{j:List ByteArray}(h:k<ts.length):(ts.take (k+1)).foldl fB j=fB ((ts.take k).foldl fB j) ts[k]:=by rw[List.take_succ_eq_append_getElem h,List.foldl_append];rfl
theorem jI(n:Nd):(bS n).length≤2:=by
 rw[bS];split;·simp
 ·split<;>simp
def Nd.fit(n:Nd):Prop:=n.name.size≤1048576∧n.peer.size≤1048576
theorem Nd.fit.ok{n:Nd}(h:n.fit):n.ok:=⟨Nat.le_trans h.1 (by unfold maxLen;omega),Nat.le_trans h.2 (by unfold maxLen;omega)⟩
theorem sy{n:Nd}(l:n.fit):∀t∈bS n,t.size≤1048576:=by
 intro t j;rw[bS]at j;split at j;·
  simp at j;rcases j with h|h;·rw[h];exact l.1
  ·rw[h];exact l.2
 ·split at j;·simp at j;rw[j];exact l.2
  ·cases j
theorem bI.grown{w w':World}{v:Value}{ls:List ByteArray}{row:Option Nat}(h:bI w v ls)(R:w.grownBy w' row)(j:∀b,v.ownBlock=some b→some b≠row):bI w' v ls:=by obtain⟨C,cap,rfl,I,J,P⟩:=h;refine⟨C,cap,rfl,I,J,fun T=>?_⟩;obtain⟨b,o,rfl,l⟩:=P T;exact⟨b,o,rfl,fun i hi=>(fh R ⟨b,_,none⟩ (World.block_lt_of_cell? w _ (l i hi)) (j b rfl)).trans (l i hi)⟩
def l6:Prop:=∀(s:ByteArray)(w:World),s.size≤1048576→Calls Tryz.prog 243 #[.string s] w fun e w'=>e=.returned (.string s)∧Below w.heap.size w w'
theorem tv(n:Nd)(w:World):Calls Tryz.prog 242 #[n.val] w fun e w'=>∃P,e=.returned P∧bI w' P (bS n)∧(∀b,P.ownBlock=some b→w.heap.size≤b)∧Below w.heap.size w w':=by
 obtain⟨op,name,j,many,sort⟩:=n;by_cases J:op=3;·subst J;have l:Hid (bS ⟨3,name,j,many,sort⟩=[name,j]):=aa rfl;unfold Nd.val;go_enter Tryz.func242,Tryz.ntmps242;go_wp2_with fail;go_ret;refine⟨_,rfl,?_,by intro b I;simp[Value.ownBlock]at I;omega,(aE _ _).trans ((aE _ _).mono (by simp))⟩;rw[l.out];refine⟨_,_,rfl,by simp,by simp,fun _=>⟨_,_,rfl,fun i hi=>?_⟩⟩;match i,hi with|0,_=>simp|1,_=>simp
 ·by_cases C:op=5∨op=6;·have l:Hid (bS ⟨op,name,j,many,sort⟩=[j]):=aa (by rcases C with h|h<;>subst h<;>rfl);unfold Nd.val;rcases C with h|h;all_goals subst h;clear J;go_enter Tryz.func242,Tryz.ntmps242;go_wp2_with fail;go_ret;refine⟨_,rfl,?_,by intro b I;simp[Value.ownBlock]at I;omega,(aE _ _).trans ((aE _ _).mono (by simp))⟩;rw[l.out];refine⟨_,_,rfl,by simp,by simp,fun _=>⟨_,_,rfl,fun i hi=>?_⟩⟩;match i,hi with|0,_=>simp
  ·have g3:(op==3)=false:=beq_eq_false_iff_ne.2 J;have R:(op==5)=false:=beq_eq_false_iff_ne.2 (fun h=>C (.inl h));have T:(op==6)=false:=beq_eq_false_iff_ne.2 (fun h=>C (.inr h));have l:Hid (bS ⟨op,name,j,many,sort⟩=[]):=aa (by simp[bS,g3,R,T]);clear J C;unfold Nd.val;go_enter Tryz.func242,Tryz.ntmps242;go_wp2_with fail;go_ret;refine⟨_,rfl,?_,by intro b I;simp[Value.ownBlock]at I,aE _ _⟩;rw[l.out];exact⟨_,_,rfl,by simp,by simp,fun h=>absurd rfl h⟩
theorem zq(bN:l6)(ns:List Nd)(v:Value)(w:World)(ok:∀n∈ns,n.fit)(hv:bF w w.heap.size v ns)(hl:ns.length≤40):Calls Tryz.prog 205 #[v] w fun e w'=>∃v',e=.returned v'∧w'.ownsRow w.heap.size 9 1 v' (dX ns).length ((dX ns).map Value.string)∧Below w.heap.size w w':=by
 obtain⟨ao,cap,rfl,hc,hm,hr⟩:=hv;obtain⟨i0,hi,b4,b5,a2⟩:=info_parts Tryz.lh;have HI:=aa (And.intro hi (And.intro b4 (And.intro b5 a2)));have HR:=aa hr;have cb:=aa bN;have cf:=aa ok;clear hr bN ok hi b4 b5 a2;go_enter Tryz.func205,Tryz.ntmps205;go_wp2_with fail;go_loopw[3,10](fun out i wr=>∃(k:Nat)(C:List ByteArray),k≤ns.length∧i=.int .i64 k∧C=(ns.take k).foldl iG []∧wr.ownsRow w.heap.size 9 1 out C.length (C.map Value.string)∧C.length≤2*k∧Below w.heap.size w wr)(fun _ i _=>ns.length-(intOf i).toNat);case atStart=>exact⟨0,[],Nat.zero_le _,rfl,rfl,World.ownsRow_nil _ _ _ _,by simp,Below.refl _ _⟩
 case round=>
  obtain⟨k,C,hk,rfl,a6,bb,cz,ay⟩:=hrel;have a3:=aa a6;have aq:=aa bb;have al:=aa ay;have b1:=ay.size;clear a6 ay bb;by_cases af:k<ns.length;·
   obtain⟨b,o,rfl,cr,bf⟩:=HR.out (by intro h;simp[h]at af);have U:=(bf.get k af).carry cr al.out;obtain⟨n1,a0⟩:∃n1,n1=ns[k]:=⟨_,rfl⟩;rw[←a0]at U;have HN:=aa (show(ns.take (k+1)).foldl iG []=iG C n1 by rw[pJ af,a3.out,a0]);have cd:=aa (show n1.fit by rw[a0];exact cf.out _ (List.getElem_mem af));clear a0 bf;have cI:b<wr.heap.size:=U.lt;obtain⟨c0,c1,c2,c3,c4⟩:=U;go_wp2_with(go_at_call 242;refine(tv n1 _).mono ?_;rintro e w1⟨v1,rfl,b3,b0,bi⟩;have cl:=aa b3;obtain⟨av,ab,rfl,bB,bL,bM⟩:=b3;have bm:Hid (Below w.heap.size w w1):=aa (al.out.trans (((aE _ _).trans (bi.mono (by simp))).mono b1));have br:=aa (fl (aq.out.alloc _) bi);have cM:=bm.out.size;have cc:=aa b0;clear bi bM b0);obtain⟨ts,ah⟩:∃ts,bS n1=ts:=⟨_,rfl⟩;have cq:=aa ah;rw[ah]at bB bL⊢;have cL:ts.length≤2:=by rw[←ah];exact jI n1
   have cp:=aa (show∀t∈ts,t.size≤1048576 by rw[←ah];exact sy cd.out);have bv:Hid (bI w1 (.slice av ts.length ab) ts):=aa (by rw[←ah];exact cl.out);clear ah;go_loopw[3,17](fun out i w2=>∃(j:Nat)(I:List ByteArray),j≤ts.length∧i=.int .i64 j∧I=(ts.take j).foldl fB C∧w2.ownsRow w.heap.size 9 1 out I.length (I.map Value.string)∧I.length≤2*k+j∧Below w.heap.size w w2∧bI w2 (.slice av ts.length ab) ts∧(∀a,av=some a→out.ownBlock≠some a.block)∧(∀a,av=some a→ts≠[]→a.block<w2.heap.size))(fun _ i _=>ts.length-(intOf i).toNat);case atStart=>
    refine⟨0,C,by omega,rfl,rfl,br.out,by omega,bm.out,bv.out,fun a ha hb=>?_,fun a ha a1=>?_⟩;·have h1:=(aq.out.lt _ hb).2;have h2:=cc.out a.block (by rw[ha];rfl);simp at h2;omega
    ·obtain⟨_,_,he,_,_,hc⟩:=bv.out;obtain⟨b,o,cs,bk⟩:=hc a1;have af:=World.block_lt_of_cell? _ _ (bk 0 (List.length_pos_iff.2 a1));have:a.block=b:=by rw[ha]at he;injection he with he;rw[cs]at he;injection he with he;rw[he]
     rw[this];exact af
   case round=>
    obtain⟨j,I,hj,rfl,bz,aM,cx,T,aR,aL,a8⟩:=hrel;have bl:=aa bz;have J:=aa aM;have P:=aa T;have a5:=aa aR;have R:=aa aL;have an:=aa a8;have a2:=T.size;clear bz aM T aL a8;by_cases az:j<ts.length;·
     obtain⟨cy,bx,bR,-,-,a7⟩:=aR;obtain⟨b2,o2,rfl,ad⟩:=a7 (by intro h;simp[h]at az);obtain⟨rfl,rfl⟩:av=some ⟨b2,o2,none⟩∧ab=bx:=by simpa using bR
     have cu:=ad j az;obtain⟨s,hs⟩:∃s,s=ts[j]:=⟨_,rfl⟩;rw[←hs]at cu;have bn:=aa (show(ts.take (j+1)).foldl fB C=fB I s by rw[qS az,bl.out,hs]);have ch:=aa (show s.size≤1048576 by rw[hs];exact cp.out _ (List.getElem_mem az));clear hs ad a7 bR;cases hh:b8 I s;·
      have HH:=aa hh;clear hh;go_wp2_with(first|(go_at_call 184;refine(fI I s _ _ (cD J.out (by omega))).mono ?_;rintro e w3⟨rfl,rfl⟩;rw[HH.out])|(go_at_call 243;refine(cb.out s _ ch.out).mono ?_;rintro e w4⟨rfl,ax⟩;have a4:=aa (fl J.out ax);have cN:=ax.size;have cm:=aa (a5.out.carry ax);have b7:=aa ax;clear ax)|(at_builtin;refine wpList_append_own_at _ rfl (.tmp 25) (.tmp 28) 42 rfl w.heap.size 9 i0 (.string ByteArray.empty) 1 16 Tryz.underlying42 HI.out.1 HI.out.2.1 HI.out.2.2.1 HI.out.2.2.2 rfl (by decide) _ I.length (I.map Value.string) rfl (a4.out.alloc _) ⟨_,0,none⟩ 1 1 [.string s] rfl rfl (fR (dg _ _ _ _ rfl)) (one_cell _) (by unfold maxLen;omega) (by omega) (by simp;omega) ?_;intro v5 w5 aN l _ a9;have bs:=aa aN;have bp:=aa a9;have cn:Hid (bI w5 (.slice (some ⟨b2,o2,none⟩) ts.length ab) ts):=aa ((cm.out.carry (aE _ _)).grown l (fun b hb=>by simp[Value.ownBlock]at hb;subst hb;exact fun h=>R.out _ rfl h.symm));have cg:=aa l.size;have ca:Hid (Below w.heap.size w w5):=aa ((((P.out.trans (b7.out.mono a2)).alloc (by omega) _)).grown l (by simp;omega) (eG a4.out));clear aN l a9));go_wp2_with fail;go_roundw;case rel=>
       have e:fB I s=I++[s]:=by simp[fB,HH.out]
       have h5:=cg.out;simp at h5;refine⟨j+1,I++[s],by omega,by go_num,by rw[bn.out,e],by have:=bs.out;simpa using this,by simp;omega,ca.out,cn.out,fun a ha hb=>?_,fun a ha a1=>?_⟩;·
        have h1:=an.out a ha (by intro h;simp[h]at az);rcases bp.out with h|h;·exact R.out a ha (h.symm.trans hb)
        ·rw[h]at hb;simp at hb;omega
       ·have h1:=an.out a ha a1;omega
      case measure=>simp[intOf];omega
     ·have HH:=aa hh;clear hh;go_wp2_with(go_at_call 184;refine(fI I s _ _ (cD J.out (by omega))).mono ?_;rintro e w3⟨rfl,rfl⟩;rw[HH.out]);go_roundw;case rel=>
       have e:fB I s=I:=by simp[fB,HH.out]
       exact⟨j+1,I,by omega,by go_num,by rw[bn.out,e],J.out,by omega,P.out,a5.out,R.out,an.out⟩
      case measure=>simp[intOf];omega
    ·clear aR;go_wp2_with fail;go_roundw;case rel=>
      have cv:iG C n1=I:=by rw[bl.out,iG,cq.out,List.take_of_length_le (by omega)]
      exact⟨k+1,I,by omega,by go_num,by rw[HN.out,cv],J.out,by omega,P.out⟩
     case measure=>simp[intOf];omega
  ·go_wp2_with fail;go_ret;refine⟨_,rfl,?_,al.out⟩;have h1:C=dX ns:=by rw[a3.out,List.take_of_length_le (by omega)];rfl
   rw[←h1];exact aq.out
end Go.Proofs.YtdiiiijkhpdcbaaGreatDoor
