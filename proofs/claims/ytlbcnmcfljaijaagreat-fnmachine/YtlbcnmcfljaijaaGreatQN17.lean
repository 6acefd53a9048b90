import Derived.Test.YtlbcnmcfljaijaaGreatQN11
namespace Go.Proofs.YtlbcnmcfljaijaaGreat
open Go.RowKit
set_option linter.unusedSimpArgs false
set_option linter.unusedVariables false
set_option maxHeartbeats 1000000
set_option maxRecDepth 100000
def lT(w:World)(v:Value)(ls:List ByteArray):Prop:=∃b o cap,v=.slice (some ⟨b,o,none⟩) ls.length cap∧ls.length≤cap∧cap≤maxLen∧∀i(h:i<ls.length),w.cell? ⟨b,o+i,none⟩=some (.string ls[i])
def iG(s t:ByteArray):Bool:=Op.bytesLess s.toList t.toList
def gR:List ByteArray→ByteArray→Nat|[],_=>0|s::ls,t=>if iG s t then gR ls t+1 else 0
def cK(ls:List ByteArray)(t:ByteArray):List ByteArray:=if cH ((ls.drop (gR ls t)).take 1) t then ls else ls.take (gR ls t)++[t]++ls.drop (gR ls t)
theorem tp:∀(ls:List ByteArray)(t:ByteArray)(k:Nat),k≤ls.length→(∀j(h:j<ls.length),j<k→iG ls[j] t=true)→(∀h:k<ls.length,iG ls[k] t=false)→gR ls t=k|[],t,k,l,_,_=>by simp at l;subst l;rfl|s::ls,t,0,_,_,C=>by have:=C (by simp);simp at this;simp[gR,this]|s::ls,t,k+1,l,J,C=>by have I:=J 0 (by simp) (by omega);simp at I;have ih:=tp ls t k (by simpa using l) (fun j h P=>by have:=J (j+1) (by simpa using h) (by omega);simpa using this) (fun h=>by have:=C (by simpa using h);simpa using this);rw[gR,if_pos I,ih]
theorem EE{ls:List ByteArray}{t:ByteArray}{k:Nat}(C:gR ls t=k)(l:k<ls.length)(j:(ls[k].toList==t.toList)=true):cK ls t=ls:=by
 have e:(ls.drop k).take 1=[ls[k]]:=by rw[List.drop_eq_getElem_cons l];rfl
 rw[cK,C,e,if_pos];simp only[cH,List.any_cons,List.any_nil,Bool.or_false];exact j
theorem AY{ls:List ByteArray}{t:ByteArray}{k:Nat}(C:gR ls t=k)(l:∀j:k<ls.length,(ls[k].toList==t.toList)=false):cK ls t=ls.take k++[t]++ls.drop k:=by
 rw[cK,C,if_neg];by_cases j:k<ls.length;·
  have e:(ls.drop k).take 1=[ls[k]]:=by rw[List.drop_eq_getElem_cons j];rfl
  rw[e];simp only[cH,List.any_cons,List.any_nil,Bool.or_false,l j];decide
 ·rw[List.drop_of_length_le (by omega)];simp[cH]
theorem lE{w:World}{base e:Nat}{v:Value}{ls:List ByteArray}(h:w.ownsRow base e 1 v ls.length (ls.map Value.string))(J:ls≠[]):lT w v ls:=by
 obtain⟨_,hv⟩:=h;rcases hv with⟨rfl,P⟩|⟨g,cap,j,rfl,hg,T,U,C,ab,l⟩;·exact absurd (List.length_eq_zero_iff.1 P) J
 ·refine⟨g,0,cap,rfl,U,C,fun i hi=>?_⟩;have R:j.toList[i]?=some (.string ls[i]):=by
   have I:(j.toList.take (ls.length*1))[i]?=(ls.map Value.string)[i]?:=by rw[l]
   rw[List.getElem?_take,if_pos (by omega)]at I;rw[I];simp[hi]
  have I:j[i]?=some (.string ls[i]):=by rw[←R];simp
  simp only[World.cell?,T];simpa using I
theorem A8(ls:List ByteArray)(t:ByteArray)(v:Value)(w:World)(hv:lT w v ls)(hl:ls.length≤100):Calls Tryz.prog 155 #[v,.string t] w fun e w'=>∃v',e=.returned v'∧lT w' v' (cK ls t)∧Below w.heap.size w w':=by
 have HV:=aa hv;obtain⟨b,o,cap,rfl,hc,hm,ax⟩:=hv;obtain⟨i0,hi,ba,av,af⟩:=info_parts Tryz.nr;have P:=aa (And.intro hi (And.intro ba (And.intro av af)));have HC:=aa ax;have HM:=aa hm;clear ax hm hi ba av af;go_enter Tryz.func155,Tryz.ntmps155;go_wp2_with fail;go_loop[5](fun i=>∃k:Nat,k≤ls.length∧i=.int .i64 k∧∀j(h:j<ls.length),j<k→iG ls[j] t=true)(fun i=>ls.length-(intOf i).toNat);case atStart=>exact⟨0,Nat.zero_le _,rfl,fun j _ h=>absurd h (by omega)⟩
 case round=>
  obtain⟨k,hk,rfl,a4⟩:=hrel;have HA:=aa a4;clear a4;by_cases a3:k<ls.length;·
   have be:=HC.out k a3;obtain⟨s,hs⟩:∃s,s=ls[k]:=⟨_,rfl⟩;rw[←hs]at be;have a2:=aa hs;clear hs;cases ay:Op.bytesLess s.toList t.toList;·
    have a8:=aa (show iG ls[k] t=false by rw[←a2.out];exact ay);have a0:=aa (tp ls t k hk HA.out (fun _=>a8.out));cases heq:(s.toList==t.toList);·
     have a1:=aa (AY a0.out (fun _=>by rw[←a2.out];exact heq));have ag:Hid (∀W',Below w.heap.size w W'→∀j u,((ls.take k).map Value.string)[j]?=some u→W'.cell? ((⟨b,o,none⟩:Addr).add j)=some u):=aa (fun W' hb j u h=>mZ (ls:=ls.take k) (fun i hi=>by rw[List.getElem_take];exact HC.out i (by simp at hi;omega)) hb j u h);by_cases a5:cap=k;·exfalso;omega
     ·have a9:Hid (∀W',Below w.heap.size w W'→∀j u,((ls.drop k).map Value.string)[j]?=some u→W'.cell? ((⟨b,o+k,none⟩:Addr).add j)=some u):=aa (fun W' hb j u h=>mZ (ls:=ls.drop k) (fun i hi=>by rw[List.getElem_drop,Nat.add_assoc];exact HC.out (k+i) (by simp at hi;omega)) hb j u h);go_wp2_with(first|(at_builtin;refine wpList_append_own _ rfl (.tmp 34) (.tmp 37) 78 rfl w.heap.size 9 i0 (.string ByteArray.empty) 1 16 Tryz.underlying78 P.out.1 P.out.2.1 P.out.2.2.1 P.out.2.2.2 rfl (by decide) (.slice (some ⟨w.heap.size,0,none⟩) 0 0) 0 [] rfl (dj _ _ _ _ (Nat.le_refl _) (bQ _ _ _ rfl)) ⟨b,o,none⟩ k cap ((ls.take k).map Value.string) rfl (by first|(simp;done)|(simp;omega)) (ag.out _ (aC _ _)) (fN _) (by unfold maxLen;omega) (by omega) (by simp) ?_;intro v1 w1 l C _;simp only[Nat.zero_add,List.nil_append]at l;have ac:=aa l;have ab:Hid (Below w.heap.size w w1):=aa ((aC _ _).grown C (by simp) (by intro k hk;simp[Value.ownBlock]at hk;omega));have av:w.heap.size≤w1.heap.size:=ab.out.size;clear l C)|(at_builtin;refine wpList_append_own _ rfl (.tmp 39) (.tmp 41) 78 rfl w.heap.size 9 i0 (.string ByteArray.empty) 1 16 Tryz.underlying78 P.out.1 P.out.2.1 P.out.2.2.1 P.out.2.2.2 rfl (by decide) v1 k ((ls.take k).map Value.string) rfl (ac.out.alloc _) ⟨w1.heap.size,0,none⟩ 1 1 [.string t] rfl rfl (gj (cJ _ _ _ _ rfl)) (one_cell _) (by unfold maxLen;omega) (by omega) (by first|(simp;done)|(simp;omega)) ?_;intro v2 w2 R I _;have ad:=aa R;have U:Hid (Below w.heap.size w w2):=aa ((ab.out.alloc av _).grown I (by first|(simp;done)|(simp;omega)) (fM ac.out));have af:w.heap.size≤w2.heap.size:=U.out.size;clear R I)|(at_builtin;refine wpList_append_own _ rfl (.tmp 43) (.tmp 46) 78 rfl w.heap.size 9 i0 (.string ByteArray.empty) 1 16 Tryz.underlying78 P.out.1 P.out.2.1 P.out.2.2.1 P.out.2.2.2 rfl (by decide) v2 (k+1) ((ls.take k).map Value.string++[.string t]) rfl ad.out ⟨b,o+k,none⟩ (ls.length-k) (cap-k) ((ls.drop k).map Value.string) rfl (by simp) (a9.out _ U.out) (fN _) (by unfold maxLen;omega) (by omega) af ?_;intro v3 w3 T J _;have ao:=aa T;have ah:Hid (Below w.heap.size w w3):=aa (U.out.grown J af (fM ad.out));clear T J));go_ret;refine⟨_,rfl,?_,ah.out⟩;rw[a1.out];refine lE (base:=w.heap.size) (e:=9) ?_ (by simp);have:=ao.out;have az:k+1+(ls.length-k)=(ls.take k++[t]++ls.drop k).length:=by simp;omega
      rw[az]at this;simpa using this
    ·have bb:=aa (EE a0.out a3 (by rw[←a2.out];exact heq));go_wp2_with fail;go_ret;exact⟨_,rfl,by rw[bb.out];exact HV.out,Below.refl _ _⟩
   ·have a8:=aa (show iG ls[k] t=true by rw[←a2.out];exact ay);go_wp2_with fail;go_round;case rel=>
     exact⟨k+1,by omega,by go_num,fun j h hj=>by
      rcases Nat.lt_or_ge j k with h1|h1;·exact HA.out j h h1
      ·have:j=k:=by omega
       subst this;exact a8.out⟩
    case measure=>simp[intOf];omega
  ·have a0:=aa (tp ls t k hk HA.out (fun h=>absurd h a3));have a1:=aa (AY a0.out (fun h=>absurd h a3));obtain rfl:k=ls.length:=by omega
   have ag:Hid (∀W',Below w.heap.size w W'→∀j u,((ls.take ls.length).map Value.string)[j]?=some u→W'.cell? ((⟨b,o,none⟩:Addr).add j)=some u):=aa (fun W' hb j u h=>mZ (ls:=ls.take ls.length) (fun i hi=>by rw[List.getElem_take];exact HC.out i (by simp at hi;omega)) hb j u h);by_cases a5:cap=ls.length;·
    subst a5;go_wp2_with(first|(at_builtin;refine wpList_append_own _ rfl (.tmp 34) (.tmp 37) 78 rfl w.heap.size 9 i0 (.string ByteArray.empty) 1 16 Tryz.underlying78 P.out.1 P.out.2.1 P.out.2.2.1 P.out.2.2.2 rfl (by decide) (.slice (some ⟨w.heap.size,0,none⟩) 0 0) 0 [] rfl (dj _ _ _ _ (Nat.le_refl _) (bQ _ _ _ rfl)) ⟨b,o,none⟩ ls.length ls.length ((ls.take ls.length).map Value.string) rfl (by first|(simp;done)|(simp;omega)) (ag.out _ (aC _ _)) (fN _) (by unfold maxLen;omega) (by omega) (by simp) ?_;intro v1 w1 l C _;simp only[Nat.zero_add,List.nil_append]at l;have ac:=aa l;have ab:Hid (Below w.heap.size w w1):=aa ((aC _ _).grown C (by simp) (by intro k hk;simp[Value.ownBlock]at hk;omega));have av:w.heap.size≤w1.heap.size:=ab.out.size;clear l C)|(at_builtin;refine wpList_append_own _ rfl (.tmp 39) (.tmp 41) 78 rfl w.heap.size 9 i0 (.string ByteArray.empty) 1 16 Tryz.underlying78 P.out.1 P.out.2.1 P.out.2.2.1 P.out.2.2.2 rfl (by decide) v1 ls.length ((ls.take ls.length).map Value.string) rfl (ac.out.alloc _) ⟨w1.heap.size,0,none⟩ 1 1 [.string t] rfl rfl (gj (cJ _ _ _ _ rfl)) (one_cell _) (by unfold maxLen;omega) (by omega) (by first|(simp;done)|(simp;omega)) ?_;intro v2 w2 R I _;have ad:=aa R;have U:Hid (Below w.heap.size w w2):=aa ((ab.out.alloc av _).grown I (by first|(simp;done)|(simp;omega)) (fM ac.out));have af:w.heap.size≤w2.heap.size:=U.out.size;clear R I)|(at_builtin;refine wpList_append_own _ rfl (.tmp 43) (.tmp 46) 78 rfl w.heap.size 9 i0 (.string ByteArray.empty) 1 16 Tryz.underlying78 P.out.1 P.out.2.1 P.out.2.2.1 P.out.2.2.2 rfl (by decide) v2 (ls.length+1) ((ls.take ls.length).map Value.string++[.string t]) rfl ad.out ⟨b,o,none⟩ 0 0 [] rfl rfl (fun j u h=>by simp at h) (fun u h=>by simp at h) (by unfold maxLen;omega) (by omega) af ?_;intro v3 w3 T J _;have ao:=aa T;have ah:Hid (Below w.heap.size w w3):=aa (U.out.grown J af (fM ad.out));clear T J));go_ret;refine⟨_,rfl,?_,ah.out⟩;rw[a1.out];refine lE (base:=w.heap.size) (e:=9) ?_ (by simp);have:=ao.out;have az:ls.length+1+0=(ls.take ls.length++[t]++ls.drop ls.length).length:=by simp
    rw[az]at this;simpa using this
   ·go_wp2_with(first|(at_builtin;refine wpList_append_own _ rfl (.tmp 34) (.tmp 37) 78 rfl w.heap.size 9 i0 (.string ByteArray.empty) 1 16 Tryz.underlying78 P.out.1 P.out.2.1 P.out.2.2.1 P.out.2.2.2 rfl (by decide) (.slice (some ⟨w.heap.size,0,none⟩) 0 0) 0 [] rfl (dj _ _ _ _ (Nat.le_refl _) (bQ _ _ _ rfl)) ⟨b,o,none⟩ ls.length cap ((ls.take ls.length).map Value.string) rfl (by first|(simp;done)|(simp;omega)) (ag.out _ (aC _ _)) (fN _) (by unfold maxLen;omega) (by omega) (by simp) ?_;intro v1 w1 l C _;simp only[Nat.zero_add,List.nil_append]at l;have ac:=aa l;have ab:Hid (Below w.heap.size w w1):=aa ((aC _ _).grown C (by simp) (by intro k hk;simp[Value.ownBlock]at hk;omega));have av:w.heap.size≤w1.heap.size:=ab.out.size;clear l C)|(at_builtin;refine wpList_append_own _ rfl (.tmp 39) (.tmp 41) 78 rfl w.heap.size 9 i0 (.string ByteArray.empty) 1 16 Tryz.underlying78 P.out.1 P.out.2.1 P.out.2.2.1 P.out.2.2.2 rfl (by decide) v1 ls.length ((ls.take ls.length).map Value.string) rfl (ac.out.alloc _) ⟨w1.heap.size,0,none⟩ 1 1 [.string t] rfl rfl (gj (cJ _ _ _ _ rfl)) (one_cell _) (by unfold maxLen;omega) (by omega) (by first|(simp;done)|(simp;omega)) ?_;intro v2 w2 R I _;have ad:=aa R;have U:Hid (Below w.heap.size w w2):=aa ((ab.out.alloc av _).grown I (by first|(simp;done)|(simp;omega)) (fM ac.out));have af:w.heap.size≤w2.heap.size:=U.out.size;clear R I)|(at_builtin;refine wpList_append_own _ rfl (.tmp 43) (.tmp 46) 78 rfl w.heap.size 9 i0 (.string ByteArray.empty) 1 16 Tryz.underlying78 P.out.1 P.out.2.1 P.out.2.2.1 P.out.2.2.2 rfl (by decide) v2 (ls.length+1) ((ls.take ls.length).map Value.string++[.string t]) rfl ad.out ⟨b,o+ls.length,none⟩ 0 (cap-ls.length) [] rfl rfl (fun j u h=>by simp at h) (fun u h=>by simp at h) (by unfold maxLen;omega) (by omega) af ?_;intro v3 w3 T J _;have ao:=aa T;have ah:Hid (Below w.heap.size w w3):=aa (U.out.grown J af (fM ad.out));clear T J));go_ret;refine⟨_,rfl,?_,ah.out⟩;rw[a1.out];refine lE (base:=w.heap.size) (e:=9) ?_ (by simp);have:=ao.out;have az:ls.length+1+0=(ls.take ls.length++[t]++ls.drop ls.length).length:=by simp
    rw[az]at this;simpa using this
def eM(acc:List ByteArray)(n:Nd):List ByteArray:=let a:=if n.op==3 then cK acc n.name else acc;if n.peer.toList==[]then a else cK a n.peer
def lq(ns:List Nd):List ByteArray:=ns.foldl eM []
theorem ph(ls:List ByteArray)(t:ByteArray):(cK ls t).length≤ls.length+1:=by
 rw[cK];split;·omega
 ·simp;omega
theorem zx{ns:List Nd}{k:Nat}(h:k<ns.length):(ns.take (k+1)).foldl eM []=eM ((ns.take k).foldl eM []) ns[k]:=by rw[List.take_succ_eq_append_getElem h,List.foldl_append];rfl
theorem lT.carry{w w':World}{v:Value}{ls:List ByteArray}(h:lT w v ls)(J:Below w.heap.size w w'):lT w' v ls:=by obtain⟨b,o,cap,l,C,I,j⟩:=h;exact⟨b,o,cap,l,C,I,fun i hi=>(J.cell (p:=⟨b,_,none⟩) (World.block_lt_of_cell? w _ (j i hi))).trans (j i hi)⟩
theorem G9(ns:List Nd)(v:Value)(w:World)(hv:bR w w.heap.size v ns)(hl:ns.length≤40):Calls Tryz.prog 120 #[v] w fun e w'=>∃v',e=.returned v'∧lT w' v' (lq ns)∧Below w.heap.size w w':=by
 obtain⟨ao,cap,rfl,hc,hm,hr⟩:=hv;have HR:=aa hr;clear hr;go_enter Tryz.func120,Tryz.ntmps120;go_wp2_with fail;go_loopw[3,4](fun out i wr=>∃k:Nat,k≤ns.length∧i=.int .i64 k∧lT wr out ((ns.take k).foldl eM [])∧((ns.take k).foldl eM []).length≤2*k∧Below w.heap.size w wr)(fun _ i _=>ns.length-(intOf i).toNat);case atStart=>exact⟨0,Nat.zero_le _,rfl,⟨w.heap.size,0,0,rfl,Nat.le_refl _,by unfold maxLen;omega,fun i h=>absurd h (by simp)⟩,by simp,aC _ _⟩
 case round=>
  obtain⟨k,hk,rfl,j,bi,ad⟩:=hrel;obtain⟨acc,ac⟩:∃acc,acc=(ns.take k).foldl eM []:=⟨_,rfl⟩;rw[←ac]at j bi;have R:=aa ac;have ab:=aa j;have I:=aa ad;have ag:=ad.size;clear ac ad;obtain⟨b1,o1,bm,rfl,a9⟩:=j;clear a9;by_cases az:k<ns.length;·
   obtain⟨b,o,rfl,be,ay⟩:=HR.out (by intro h;simp[h]at az);have J:=(ay.get k az).carry be I.out;obtain⟨l,a0⟩:∃l,l=ns[k]:=⟨_,rfl⟩;rw[←a0]at J;have HN:=aa (show(ns.take (k+1)).foldl eM []=eM acc l by rw[zx az,R.out,a0]);have a2:=aa J;clear a0 ay;have a4:b<wr.heap.size:=J.lt;obtain⟨c0,c1,c2,c3,c4⟩:=J;obtain⟨a1,a5⟩:∃a1,(l.op==3)=a1:=⟨_,rfl⟩;obtain⟨pe,bf⟩:∃pe,(l.peer.toList==[])=pe:=⟨_,rfl⟩;have ah:=aa a5;have av:=aa bf;cases a1;·
    cases pe;·
     go_wp2_with(go_at_call 155;refine(A8 acc l.peer _ _ ab.out (by omega)).mono ?_;rintro e w1⟨v1,rfl,P,C⟩;have U:=aa P;obtain⟨b2,o2,ax,rfl,af⟩:=P;have T:=aa C;clear af C);go_roundw;case rel=>
      have j:eM acc l=cK acc l.peer:=by simp[eM,ah.out,av.out]
      refine⟨k+1,by omega,by go_num,by rw[HN.out,j];exact U.out,by rw[HN.out,j];have:=ph acc l.peer;omega,I.out.trans (T.out.mono ag)⟩
     case measure=>simp[intOf];omega
    ·go_wp2_with fail;go_roundw;case rel=>
      have j:eM acc l=acc:=by simp[eM,ah.out,av.out]
      refine⟨k+1,by omega,by go_num,by rw[HN.out,j];exact ab.out,by rw[HN.out,j];omega,I.out⟩
     case measure=>simp[intOf];omega
   ·cases pe;·
     go_wp2_with(first|(go_at_call_of 155 l.peer;refine(A8 (cK acc l.name) l.peer _ _ U.out (by have:=ph acc l.name;omega)).mono ?_;rintro e w2⟨v2,rfl,a8,a3⟩;have bb:=aa a8;obtain⟨b3,o3,bn,rfl,bg⟩:=a8;have ba:=aa a3;clear bg a3)|(go_at_call_of 155 l.name;refine(A8 acc l.name _ _ ab.out (by omega)).mono ?_;rintro e w1⟨v1,rfl,P,C⟩;have U:=aa P;obtain⟨b2,o2,ax,rfl,af⟩:=P;have bk:=C.size;obtain⟨d0,d1,d2,d3,d4⟩:=a2.out.carry a4 C;have T:=aa C;clear af C));go_roundw;case rel=>
      have j:eM acc l=cK (cK acc l.name) l.peer:=by simp[eM,ah.out,av.out]
      refine⟨k+1,by omega,by go_num,by rw[HN.out,j];exact bb.out,by rw[HN.out,j];have:=ph acc l.name;have:=ph (cK acc l.name) l.peer;omega,I.out.trans ((T.out.mono ag).trans (ba.out.mono (by omega)))⟩
     case measure=>simp[intOf];omega
    ·go_wp2_with(go_at_call 155;refine(A8 acc l.name _ _ ab.out (by omega)).mono ?_;rintro e w1⟨v1,rfl,P,C⟩;have U:=aa P;obtain⟨b2,o2,ax,rfl,af⟩:=P;have bk:=C.size;obtain⟨d0,d1,d2,d3,d4⟩:=a2.out.carry a4 C;have T:=aa C;clear af C);go_roundw;case rel=>
      have j:eM acc l=cK acc l.name:=by simp[eM,ah.out,av.out]
      refine⟨k+1,by omega,by go_num,by rw[HN.out,j];exact U.out,by rw[HN.out,j];have:=ph acc l.name;omega,I.out.trans (T.out.mono ag)⟩
     case measure=>simp[intOf];omega
  ·go_wp2_with fail;go_ret;refine⟨_,rfl,?_,I.out⟩;have:=ab.out;rw[R.out,List.take_of_length_le (by omega)]at this;have e:acc.length=((ns.take k).foldl eM []).length:=by rw[R.out]
   rw[e,List.take_of_length_le (by omega)];exact this
theorem iw{a b:ByteArray}(h:a.toList=b.toList):a=b:=by rw[Go.ByteArray.toList_eq,Go.ByteArray.toList_eq]at h;apply ByteArray.ext;exact Array.ext' h
theorem AF{ls:List ByteArray}{t:ByteArray}:cH ls t=true↔t∈ls:=by
 rw[cH,List.any_eq_true];constructor;·rintro⟨s,l,j⟩;rw[beq_iff_eq]at j;rwa[←iw j]
 ·intro h;exact⟨t,h,by simp⟩
theorem AM:∀(x y:List UInt8),Op.bytesLess x y=decide (x<y)|[],[]=>by simp[Op.bytesLess]|_::_,[]=>by simp[Op.bytesLess]|[],_::_=>by simp[Op.bytesLess]|a::x,b::y=>by rw[Op.bytesLess,AM x y];simp only[List.cons_lt_cons_iff];by_cases j:a<b<;>by_cases l:a=b<;>by_cases C:x<y<;>simp[j,l,C]
theorem sY(s t:ByteArray):iG s t=true↔s.toList<t.toList:=by rw[iG,AM];simp
theorem D3(s:ByteArray):¬iG s s=true:=by rw[sY];exact List.lt_irrefl _
theorem zg{s t u:ByteArray}(h:iG s t=true)(j:iG t u=true):iG s u=true:=by rw[sY]at*;exact List.lt_trans h j
theorem D4{s t:ByteArray}(h:¬iG s t=true)(C:s≠t):iG t s=true:=by
 rw[sY]at*;have l:t.toList≤s.toList:=List.not_lt.1 h;by_cases j:t.toList<s.toList;·exact j
 ·exact absurd (iw (List.le_antisymm (List.not_lt.1 j) l)) C
theorem pg(s:ByteArray)(ls:List ByteArray)(t:ByteArray):cK (s::ls) t=if iG s t then s::cK ls t else if s.toList==t.toList then s::ls else t::s::ls:=by
 by_cases h:iG s t=true;·rw[if_pos h,cK,gR,if_pos h,cK,List.drop_succ_cons,List.take_succ_cons];split<;>simp
 ·rw[if_neg h,cK,gR,if_neg h];simp[cH]
def kK(ls:List ByteArray):Prop:=ls.Pairwise fun a b=>iG a b=true
theorem GV{ls:List ByteArray}{t u:ByteArray}(h:u∈cK ls t):u∈ls∨u=t:=by
 induction ls with
  |nil=>simp[cK,gR,cH]at h;exact .inr h|cons s ls ih=>
   rw[pg]at h;split at h;·
    rcases List.mem_cons.1 h with h|h;·exact .inl (by simp[h])
    ·rcases ih h with h|h;·exact .inl (by simp[h])
     ·exact .inr h
   ·split at h;·exact .inl h
    ·rcases List.mem_cons.1 h with h|h;·exact .inr h
     ·exact .inl h
theorem zu{ls:List ByteArray}(I:kK ls)(t:ByteArray):kK (cK ls t):=by
 induction ls with
  |nil=>simp[cK,gR,cH,kK]|cons s ls ih=>
   obtain⟨J,P⟩:=List.pairwise_cons.1 I;rw[pg];split;·
    rename_i l;refine List.pairwise_cons.2 ⟨fun u hu=>?_,ih P⟩;rcases GV hu with h|h;·exact J u h
    ·rw[h];exact l
   ·rename_i l;split;·exact I
    ·rename_i R;have C:s≠t:=fun h=>R (by simp[h]);have j:=D4 l C;refine List.pairwise_cons.2 ⟨fun u hu=>?_,I⟩;rcases List.mem_cons.1 hu with h|h;·rw[h];exact j
     ·exact zg j (J u h)
theorem Jm{ls:List ByteArray}(I:kK ls){t:ByteArray}(j:t∈ls):cK ls t=ls:=by
 induction ls with
  |nil=>cases j|cons s ls ih=>
   obtain⟨l,C⟩:=List.pairwise_cons.1 I;rw[pg];rcases List.mem_cons.1 j with h|h;·subst h;rw[if_neg (D3 t),if_pos (by simp)]
   ·rw[if_pos (l t h),ih C h]
theorem ED{ls:List ByteArray}{t:ByteArray}(j:¬t∈ls):(cK ls t).Perm (t::ls):=by
 induction ls with
  |nil=>simp[cK,gR,cH]|cons s ls ih=>
   rw[pg];split;·exact((ih (fun h=>j (List.mem_cons_of_mem _ h))).cons s).trans (List.Perm.swap _ _ _)
   ·rw[if_neg (fun h=>j (by rw[beq_iff_eq]at h;rw[iw h];simp))]
def kL(acc:List ByteArray)(t:ByteArray):List ByteArray:=if cH acc t then acc else acc++[t]
theorem Ak:∀(I j l:List ByteArray),kK l→j.Perm l→kK (I.foldl cK l)∧(I.foldl kL j).Perm (I.foldl cK l)
 |[],_,_,J,C=>⟨J,C⟩|t::I,j,l,J,C=>by
  refine Ak I _ _ (zu J t) ?_;by_cases P:t∈j;·rw[kL,if_pos (AF.2 P),Jm J (C.mem_iff.1 P)];exact C
  ·rw[kL,if_neg (fun h=>P (AF.1 h))];exact(List.perm_append_singleton t j).trans ((C.cons t).trans (ED (fun h=>P (C.mem_iff.2 h))).symm)
def dc(n:Nd):List ByteArray:=if n.op==3 then[n.name,n.peer]else if n.op==5||n.op==6 then[n.peer]else[]
def lL(acc:List ByteArray)(n:Nd):List ByteArray:=(dc n).foldl kL acc
def iS(ns:List Nd):List ByteArray:=ns.foldl lL []
theorem Ct(ns:List Nd):iS ns=(ns.flatMap dc).foldl kL []:=by rw[iS,List.foldl_flatMap];rfl
def iZ(T:Nd→Bool)(n:Nd):Bool:=gO n||mJ n||gS n||cI n||(n.op !=0&&n.op !=1&&n.op !=2&&T n)
theorem sU{T:Nd→Bool}{go:List Nd→Option (List Nd)}(J:∀l r,go l=some r→∃p,l=p++r∧∀n∈p,iZ T n=true):∀(m:Nat)(ls:List ByteArray)(l r:List Nd),aS go m ls l=some r→∃p,l=p++r∧∀n∈p,iZ T n=true
 |0,_,l,r,h=>by cases h;exact⟨[],rfl,by simp⟩|_+1,_,[],r,h=>by cases h|m+1,ls,n::l,r,h=>by
  rw[aS]at h;split at h;·
   rename_i I;split at h;·cases h
   ·rename_i r' C;obtain⟨p1,e1,P⟩:=J _ _ C;obtain⟨p2,e2,R⟩:=sU J m _ _ _ h;have j:cI n=true:=by simp at I;exact I.1
    refine⟨n::(p1++p2),by rw[e1,e2];simp,?_⟩;intro x U;rcases List.mem_cons.1 U with h|h;·subst h;simp[iZ,j]
    ·rcases List.mem_append.1 h with h|h;·exact P x h
     ·exact R x h
  ·cases h
theorem wC(T:Nd→Bool):∀(f:Nat)(st l r:List Nd),ahead T f st l=some r→∃p,l=p++r∧∀n∈p,iZ T n=true:=by
 intro f;induction f with
  |zero=>
   intro st l r h;cases l with
    |nil=>cases h|cons n l=>
     rw[ahead]at h;repeat' split at h
     all_goals first|(cases h;done)|(cases h;refine⟨[n],rfl,?_⟩;intro x j;simp at j;subst j;simp_all[iZ])
  |succ f ih=>
   intro st l r h;cases l with
    |nil=>cases h|cons n l=>
     rw[ahead]at h;repeat' split at h
     all_goals
      first
       |(cases h;done)|(cases h;refine⟨[n],rfl,?_⟩;intro x j;simp at j;subst j;simp_all[iZ];done)|
        (
         obtain⟨p,e,I⟩:=ih _ _ _ h;refine⟨n::p,by rw[e];rfl,?_⟩;intro x j;rcases List.mem_cons.1 j with C|C;·subst C;simp_all[iZ]
         ·exact I x C)|
        (
         obtain⟨p,e,I⟩:=sU (ih _) _ _ _ _ h;refine⟨n::p,by rw[e];rfl,?_⟩;intro x j;rcases List.mem_cons.1 j with C|C;·subst C;simp_all[iZ]
         ·exact I x C)
theorem sR{go j:List Nd→Option (List Nd)}:∀(m:Nat)(ls:List ByteArray)(l:List Nd),(∀l',l'<:+l→go l'=j l')→(∀l' r,go l'=some r→r<:+l')→aS go m ls l=aS j m ls l
 |0,_,l,_,_=>rfl|_+1,_,[],_,_=>rfl|m+1,ls,n::l,h,I=>by
  rw[aS,aS,←h l (List.suffix_cons _ _)];split;·cases J:go l with|none=>rfl|some r=>exact sR m _ r (fun l' C=>h l' (C.trans ((I _ _ J).trans (List.suffix_cons _ _)))) I
  ·rfl
theorem wB{T T':Nd→Bool}:∀(f:Nat)(st l:List Nd),(∀n∈l,T n=T' n)→ahead T f st l=ahead T' f st l:=by intro f;induction f with|zero=>intro st l _;cases l<;>rfl|succ f ih=>intro st l h;cases l with|nil=>rfl|cons n l=>rw[ahead,ahead,h n (by simp),ih (n::st) l (fun x C=>h x (List.mem_cons_of_mem _ C))];rw[sR n.many.toNat [] l (fun l' j=>ih (n::st) l' (fun x C=>h x (List.mem_cons_of_mem _ (j.subset C)))) (dn T f (n::st))]
theorem Hz{t:ByteArray}(h:bJ t=true):¬t.toList=[]:=by
 intro e;simp only[bJ,du,Bool.and_eq_true]at h;have j:1≤t.size:=by simpa using h.1.1.1
 rw[Go.ByteArray.toList_eq]at e;have l:t.data.size=0:=by simpa using congrArg List.length e
 have C:t.size=t.data.size:=rfl;omega
theorem Fg{j:Bool}{n:Nd}(h:iZ (aQ j) n=true)(acc:List ByteArray):eM acc n=(dc n).foldl cK acc:=by
 simp only[iZ,Bool.or_eq_true]at h;rcases h with(((h|h)|h)|h)|h;·simp only[gO,Bool.and_eq_true,beq_iff_eq]at h;simp[eM,dc,h]
 ·simp only[mJ,Bool.and_eq_true,beq_iff_eq]at h;simp[eM,dc,h]
 ·simp only[gS,Bool.and_eq_true,beq_iff_eq]at h;simp[eM,dc,h]
 ·simp only[cI,Bool.and_eq_true,beq_iff_eq]at h;simp[eM,dc,h]
 ·simp only[Bool.and_eq_true]at h;have l:=h.2;simp only[aQ,Bool.and_eq_true]at l;have I:=Hz l.1.1.1;cases j;·simp at l;simp[eM,dc,l,I]
  ·simp at l;rcases l.2.2 with C|C<;>simp[eM,dc,C,I]
theorem Cu{j:Bool}{ns:List Nd}(h:∀n∈ns,iZ (aQ j) n=true):lq ns=(ns.flatMap dc).foldl cK []:=by
 rw[lq,List.foldl_flatMap];have:∀(l:List Nd)(acc:List ByteArray),(∀n∈l,iZ (aQ j) n=true)→l.foldl eM acc=l.foldl (fun acc n=>(dc n).foldl cK acc) acc:=by intro l;induction l with|nil=>intro acc _;rfl|cons n l ih=>intro acc h;rw[List.foldl_cons,List.foldl_cons,Fg (h n (by simp)),ih _ (fun x C=>h x (List.mem_cons_of_mem _ C))]
 exact this ns [] h
theorem zy{j:Bool}{ns:List Nd}(h:∀n∈ns,iZ (aQ j) n=true):kK (lq ns)∧(iS ns).Perm (lq ns):=by rw[Cu h,Ct];exact Ak _ [] [] List.Pairwise.nil (List.Perm.refl _)
def cL(j:Bool)(l:List Nd):Bool:=decide (l.length≤40)&&((ahead (aQ j) 10 [] l).map List.length==some 0&&decide ((lq l).length≤4))
def fW(j:Bool)(n:Nd):Bool:=if j then n.op==3 else n.op==5||n.op==6
def EL(l:List Nd):Bool:=decide (l.length≤40)&&((ahead cP 10 [] l).map List.length==some 0&&decide ((iS l).length≤4))
theorem ua{T:Nd→Bool}{f:Nat}{l:List Nd}(h:((ahead T f [] l).map List.length==some 0)=true):∀n∈l,iZ T n=true:=by cases j:ahead T f [] l with|none=>rw[j]at h;cases h|some r=>rw[j]at h;simp at h;obtain⟨p,e,C⟩:=wC T f [] l r j;rw[h,List.append_nil]at e;rw[e];exact C
theorem zm{j:Bool}{n:Nd}(h:iZ (aQ j) n=true):fW j n=false:=by
 simp only[iZ,Bool.or_eq_true]at h;rcases h with(((h|h)|h)|h)|h;·simp only[gO,Bool.and_eq_true,beq_iff_eq]at h;cases j<;>simp[fW,h]
 ·simp only[mJ,Bool.and_eq_true,beq_iff_eq]at h;cases j<;>simp[fW,h]
 ·simp only[gS,Bool.and_eq_true,beq_iff_eq]at h;cases j<;>simp[fW,h]
 ·simp only[cI,Bool.and_eq_true,beq_iff_eq]at h;cases j<;>simp[fW,h]
 ·simp only[Bool.and_eq_true]at h;have l:=h.2;simp only[aQ,Bool.and_eq_true]at l;cases j;·simp at l;simp[fW,l]
  ·simp at l;rcases l.2.2 with C|C<;>simp[fW,C]
theorem CO{j:Bool}{n:Nd}(h:fW j n=false):cP n=aQ j n:=by
 simp only[cP,aQ,oB];cases j;·
  have C:(n.op==5)=false:=by cases e:(n.op==5)<;>simp_all[fW]
  have I:(n.op==6)=false:=by cases e:(n.op==6)<;>simp_all[fW]
  rw[C,I];cases(n.op==3)<;>cases bJ n.peer<;>cases fB n.many<;>cases bJ n.name<;>cases(n.sort==0)<;>rfl
 ·have l:(n.op==3)=false:=by cases e:(n.op==3)<;>simp_all[fW]
  rw[l];cases bJ n.peer<;>cases fB n.many<;>cases(n.sort==0)<;>cases(n.op==5)<;>cases(n.op==6)<;>cases(n.name.toList==[])<;>rfl
theorem right_eq(j:Bool)(l:List Nd):(EL l&&!(l.any (fW j)))=cL j l:=by
 rw[EL,cL];cases R:l.any (fW j);·
  have P:∀n∈l,fW j n=false:=by intro n C;rw[←Bool.not_eq_true];intro h;have:l.any (fW j)=true:=List.any_eq_true.2 ⟨n,C,h⟩;rw[R]at this;cases this
  rw[wB (T':=aQ j) 10 [] l (fun n C=>CO (P n C))];cases J:((ahead (aQ j) 10 [] l).map List.length==some 0);·simp
  ·rw[((zy (ua J)).2).length_eq];simp
 ·cases J:((ahead (aQ j) 10 [] l).map List.length==some 0);·simp
  ·exfalso;obtain⟨n,C,I⟩:=List.any_eq_true.1 R;rw[zm (ua J n C)]at I;cases I
end Go.Proofs.YtlbcnmcfljaijaaGreat
