import Derived.Test.YtlbcnmcfljaijaaGreatQN26
import Derived.Deep.LoopGhost
import Derived.Test.YtlbcnmcfljaijaaGreatQN20
namespace Go.Proofs.YtlbcnmcfljaijaaGreat
open Go.RowKit
set_option linter.unusedSimpArgs false
set_option linter.unusedVariables false
set_option maxHeartbeats 2000000
set_option maxRecDepth 100000
theorem Hj(x:List UInt8)(t:ByteArray)(l rb:Nat)(lv:Value)(I bad:Bool)(w:World)(hx:x.length≤8000)(ht:t.size≤8000)(T:l≤t.size)(hb:bA w rb [.string t,.int .i64 (l:Int),lv,.bool I,.bool bad]):Calls Tryz.prog 177 #[.pointer (some ⟨rb,0,none⟩),.string (ba x)] w fun e w'=>e=.returned (.tuple #[])∧aw w w' [rb]∧bA w' rb [.string t,.int .i64 (k6 x t l bad:Int),lv,.bool I,.bool (!jJ x t l bad)]:=by
 have R:=aa (Is x t l rb lv I bad w hx ht T hb);obtain⟨X,hX⟩:∃X,ba x=X:=⟨_,rfl⟩;rw[hX]at R⊢;clear hX;obtain⟨A,hA⟩:∃A,k6 x t l bad=A:=⟨_,rfl⟩;rw[hA]at R⊢;clear hA;obtain⟨q,hq⟩:∃q,jJ x t l bad=q:=⟨_,rfl⟩;have HQ:=aa hq;rw[hq]at R⊢;clear hq hb;cases q;·go_enter Tryz.func177,Tryz.ntmps177;go_wp2_with(go_at_call 178;refine R.out.mono ?_;rintro e w1⟨rfl,C,j⟩;have J:=aa C;have P:=aa j;have b4:=j.cell 4 _ rfl;have bz:=j.fz;clear C j);go_end0;exact⟨rfl,(J.out.setCell _ _),P.out.set 4 (by simp) _⟩
 ·have U:bad=false:=by
   have:=HQ.out;unfold jJ at this;cases bad;·rfl
   ·cases this
  subst U;go_enter Tryz.func177,Tryz.ntmps177;go_wp2_with(go_at_call 178;refine R.out.mono ?_;rintro e w1⟨rfl,C,j⟩;have J:=aa C;have P:=aa j;have b4:=j.cell 4 _ rfl;have bz:=j.fz;clear C j);go_end0;exact⟨rfl,J.out,P.out⟩
theorem AK(c:UInt8):(decide (97≤(c.toNat:Int))&&decide ((c.toNat:Int)≤122)||decide (48≤(c.toNat:Int))&&decide ((c.toNat:Int)≤57)||decide ((c.toNat:Int)=95))=gQ c:=by unfold gQ;rw[Bool.eq_iff_iff];simp only[Bool.or_eq_true,Bool.and_eq_true,decide_eq_true_eq,beq_iff_eq];omega
theorem JI{r:List UInt8}{k:Nat}(h:∀c∈r.take k,gQ c=true)(I:k=r.length∨∃c,r[k]?=some c∧gQ c=false):r.takeWhile gQ=r.take k∧(r.takeWhile gQ).length=min k r.length:=by
 have e:r.takeWhile gQ=r.take k:=by
  induction r generalizing k with
   |nil=>simp|cons a r ih=>
    cases k with
     |zero=>
      rcases I with l|⟨c,j,C⟩;·cases l
      ·simp at j;subst j;rw[List.takeWhile_cons,C];rfl|succ k=>
      have J:=h a (by simp);rw[List.takeWhile_cons,J,List.take_succ_cons];simp only[if_true];rw[ih (k:=k) (fun c j=>h c (by rw[List.take_succ_cons];exact List.mem_cons_of_mem _ j)) (by
       rcases I with l|⟨c,j,C⟩;·left;simpa using l
       ·right;exact⟨c,by simpa using j,C⟩)]
 exact⟨e,by rw[e,List.length_take]⟩
theorem Hu{r:List UInt8}{k:Nat}{c:UInt8}(h:∀c∈r.take k,gQ c=true)(j:r[k]?=some c)(C:gQ c=true):∀c∈r.take (k+1),gQ c=true:=fun d hd=>by
 obtain⟨l,e⟩:=List.getElem?_eq_some_iff.1 j;rw[List.take_succ_eq_append_getElem l]at hd;rcases List.mem_append.1 hd with hd|hd;·exact h d hd
 ·simp at hd;rw[hd,e];exact C
theorem wU{t:ByteArray}{j k P:Nat}(l:j+k=P)(C:P<t.size){c:UInt8}(h:t[P]=c):(t.toList.drop j)[k]?=some c:=by
 rw[List.getElem?_drop,l];have e:t.toList.length=t.size:=by rw[Go.ByteArray.toList_eq];rfl
 rw[List.getElem?_eq_getElem (by omega),←h];simp only[Go.ByteArray.toList_eq];rfl
theorem Fw{t:ByteArray}{j k P:Nat}(R:j+k=P)(J:P≤t.size)(h:∀c∈(t.toList.drop j).take k,gQ c=true)(l:P=t.size∨∃c,(t.toList.drop j)[k]?=some c∧gQ c=false):t.extract j P=ba ((t.toList.drop j).takeWhile gQ)∧j+((t.toList.drop j).takeWhile gQ).length=P:=by
 have e:t.toList.length=t.size:=by rw[Go.ByteArray.toList_eq];rfl
 obtain⟨C,I⟩:=JI h (by
  rcases l with l|l;·left;rw[List.length_drop];omega
  ·exact .inr l);refine⟨?_,by rw[I,List.length_drop];omega⟩;apply iw;rw[wX,cS,C];congr 1;omega
theorem FU{w wr:World}{rb:Nat}(h:aw w wr [rb])(n:Nat)(y:Value):aw w ((wr.drewN n).setCell ⟨rb,1,none⟩ y) [rb]:=aw.setCell (w':=wr.drewN n) ⟨h.os,h.tape,h.output,h.size,h.block⟩ 1 y
theorem FX{wr:World}{rb:Nat}{a b c d e:Value}(h:bA wr rb [a,b,c,d,e])(n:Nat)(y:Value):bA ((wr.drewN n).setCell ⟨rb,1,none⟩ y) rb [a,y,c,d,e]:=bA.set (w:=wr.drewN n) (vs:=[a,b,c,d,e]) ⟨h.cell,h.fz,h.lt⟩ 1 (by simp) y
def iN(t:ByteArray)(j:Nat):Nat:=j+((t.toList.drop j).takeWhile gQ).length
theorem Hk(t:ByteArray)(j rb:Nat)(lv:Value)(J bad:Bool)(w:World)(ht:t.size≤8000)(ah:j≤t.size)(hb:bA w rb [.string t,.int .i64 (j:Int),lv,.bool J,.bool bad]):Calls Tryz.prog 176 #[.pointer (some ⟨rb,0,none⟩)] w fun e w'=>e=.returned (.string (ba ((t.toList.drop j).takeWhile gQ)))∧aw w w' [rb]∧bA w' rb [.string t,.int .i64 (iN t j:Int),lv,.bool J,.bool bad]:=by
 have b1:=hb.cell 1 _ rfl;have I:=aa hb;clear hb;go_enter Tryz.func176,Tryz.ntmps176;go_wp2_with fail;go_loopg[]t.size(fun gf wx=>∃k,aw w wx [rb]∧bA wx rb [.string t,.int .i64 ((j+k:Nat):Int),lv,.bool J,.bool bad]∧j+k≤t.size∧(∀c∈(t.toList.drop j).take k,gQ c=true)∧t.size≤j+k+gf);case atStart=>exact⟨0,(aw.refl _).qk,I.out,ah,by simp,by omega⟩
 case round=>
  obtain⟨k,hA,hB,hk,ac,ao⟩:=hrel;obtain⟨P,hP⟩:∃P,j+k=P:=⟨_,rfl⟩;have U:=aa hP;rw[hP]at hB hk ao;have C:=aa ac;have l:=aa hA;have I:=aa hB;have c0:=hB.cell 0 _ rfl;have c1:=hB.cell 1 _ rfl;have bz:=hB.fz;clear hP ac hA hB;by_cases ad:P<t.size;·
   obtain⟨g',rfl⟩:∃g',gk=g'+1:=⟨gk-1,by omega⟩;go_wp2_with fail;go_quiet(fail);go_wp2_with fail;go_quiet(fail);obtain⟨T,ab⟩:∃T,t[P]=T:=⟨_,rfl⟩;rw[ab];have R:=aa ab;clear ab;have av:=T.toNat_lt;go_wp2_with fail;all_goals
    first
     |
      (
       have hw:gQ T=true:=by
        clear l I C U R c0 c1 bz;cases hv:gQ T;·exfalso;rw[←AK]at hv;simp only[Bool.or_eq_false_iff,Bool.and_eq_false_iff,decide_eq_false_iff_not,Bool.not_eq_true',Bool.not_eq_false',decide_eq_true_eq,beq_iff_eq,beq_eq_false_iff_ne,ne_eq]at*;omega
        ·rfl
       go_roundg g';case measure=>omega
       case rel=>have hP:=U.out;refine⟨k+1,FU l.out _ _,?_,by omega,Hu C.out (wU hP ad R.out) hw,by omega⟩;rw[show((j+(k+1):Nat):Int)=(P:Int)+1 by omega];exact FX I.out _ _)|
      (
       have hw:gQ T=false:=by
        clear l I C U R c0 c1 bz;cases hv:gQ T;·rfl
        ·exfalso;rw[←AK]at hv;simp only[Bool.or_eq_true,Bool.and_eq_true,decide_eq_false_iff_not,Bool.not_eq_true',Bool.not_eq_false',decide_eq_true_eq,beq_iff_eq,beq_eq_false_iff_ne,ne_eq]at*;omega
       obtain⟨w1,w2⟩:=Fw U.out hk C.out (.inr ⟨T,wU U.out ad R.out,hw⟩);have hP:j≤P:=by have:=U.out;omega
       have af:=aa w1;have ag:=aa w2;clear w1 w2;go_quiet(fail);go_wp2_with fail;go_ret;refine⟨dY af.out.symm,⟨l.out.os,l.out.tape,l.out.output,l.out.size,l.out.block⟩,?_⟩;unfold iN;rw[ag.out];exact⟨I.out.cell,I.out.fz,I.out.lt⟩)
  ·go_wp2_with fail;go_quiet(fail);go_wp2_with fail;go_quiet(fail);go_wp2_with fail;obtain⟨w1,w2⟩:=Fw U.out hk C.out (.inl (by omega));go_ret;refine⟨dY w1.symm,⟨l.out.os,l.out.tape,l.out.output,l.out.size,l.out.block⟩,?_⟩;unfold iN;rw[w2];exact⟨I.out.cell,I.out.fz,I.out.lt⟩
def iT(t:ByteArray)(a:Nat)(l:List Nd)(bad:Bool):Ss:=⟨t.toList.drop a,l,bad⟩
theorem rJ(t:ByteArray):t.toList.length=t.size:=by rw[Go.ByteArray.toList_eq];rfl
theorem DR(x:List UInt8)(t:ByteArray)(a:Nat)(l:List Nd)(bad:Bool):nO x (iT t a l bad)=if jJ x t a bad=true then some (iT t (k6 x t a bad) l bad)else none:=by
 unfold nO k6 iT;cases h:jJ x t a bad;·have j:(!bad&&x.isPrefixOf (t.toList.drop a))=false:=h;simp only[j];rfl
 ·have j:(!bad&&x.isPrefixOf (t.toList.drop a))=true:=h;simp only[j,if_true,List.drop_drop]
theorem DP{x:List UInt8}{t:ByteArray}{a:Nat}{bad:Bool}(h:a≤t.size):k6 x t a bad≤t.size:=by
 unfold k6;split;·rename_i j;unfold jJ at j;simp only[Bool.and_eq_true]at j;have:=(List.isPrefixOf_iff_prefix.1 j.2).length_le;rw[List.length_drop,rJ]at this;omega
 ·exact h
theorem ry(x:List UInt8)(t:ByteArray)(a:Nat)(l:List Nd)(bad:Bool):dg x (iT t a l bad)=iT t (k6 x t a bad) l (!jJ x t a bad):=by
 unfold dg;rw[DR];cases h:jJ x t a bad;·
  have e:k6 x t a bad=a:=by unfold k6;rw[h];rfl
  rw[e];rfl
 ·have:bad=false:=by
   unfold jJ at h;cases bad;·rfl
   ·cases h
  subst this;rfl
theorem CR(t:ByteArray)(a:Nat):((t.toList.drop a).takeWhile gQ).length≤t.size-a:=by have:=(List.takeWhile_sublist (p:=gQ) (l:=t.toList.drop a)).length_le;rw[List.length_drop,rJ]at this;exact this
theorem JJ{t:ByteArray}{a:Nat}(h:a≤t.size):iN t a≤t.size:=by have:=CR t a;unfold iN;omega
theorem F6(r:List UInt8):r.dropWhile gQ=r.drop (r.takeWhile gQ).length:=by have h:=List.takeWhile_append_dropWhile (p:=gQ) (l:=r);have:=congrArg (List.drop (r.takeWhile gQ).length) h;rw[List.drop_left' rfl]at this;exact this
theorem yr(t:ByteArray)(a:Nat)(l:List Nd)(bad:Bool):kD (iT t a l bad)=iT t (iN t a) l bad:=by unfold kD iT iN;dsimp only;rw[F6,List.drop_drop]
theorem zZ(t:ByteArray)(a:Nat)(l:List Nd)(bad:Bool):tU (iT t a l bad)=(t.toList.drop a).takeWhile gQ:=rfl
theorem rC(n:Nd)(t:ByteArray)(a:Nat)(l:List Nd)(bad:Bool):gY n (iT t a l bad)=iT t a (l++[n]) bad:=rfl
structure fX(k:Bool)(s:Ss):Prop where
 r:s.r.length≤8000
 f:k=true→∀n∈s.l,n.fit
 n:s.l.length≤42
def jr(s:Ss):Prop:=s.bad=false→s.l.length≤41
theorem fX.is{k:Bool}{x:List UInt8}{s j:Ss}(h:fX k s)(e:nO x s=some j):fX k j∧j.l=s.l∧j.bad=s.bad:=by
 unfold nO at e;split at e;·injection e with e;subst e;exact⟨⟨by dsimp only;rw[List.length_drop];have:=h.r;omega,h.f,h.n⟩,rfl,rfl⟩
 ·cases e
theorem fX.Cj{k:Bool}{s:Ss}(h:fX k s)(x:List UInt8):fX k (dg x s)∧(dg x s).l=s.l∧((dg x s).bad=false→s.bad=false):=by unfold dg;cases e:nO x s with|none=>exact⟨⟨h.r,h.f,h.n⟩,rfl,fun h=>by cases h⟩|some P=>obtain⟨j,C,I⟩:=h.is e;exact⟨j,C,fun J=>by rw[←I];exact J⟩
theorem fX.sk{k:Bool}{s:Ss}(h:fX k s):fX k (kD s):=⟨by have:=(List.dropWhile_sublist (p:=gQ) (l:=s.r)).length_le;have:=h.r;unfold kD;dsimp only;omega,h.f,h.n⟩
theorem fX.wd{k:Bool}{s:Ss}(h:fX k s):(ba (tU s)).size≤1048576:=by have:=(List.takeWhile_sublist (p:=gQ) (l:=s.r)).length_le;have:=h.r;rw[iM];unfold tU;omega
theorem fX.push{k:Bool}{s:Ss}(h:fX k s)(J:s.l.length≤41){n:Nd}(I:n.fit):fX k (gY n s):=⟨h.r,fun C m j=>by
 rcases List.mem_append.1 (show m∈s.l++[n]from j)with j|j;·exact h.f C m j
 ·simp at j;rw[j];exact I,by show(s.l++[n]).length≤42;rw[List.length_append];simp;omega⟩
theorem kV:bt.size≤1048576:=by show bt.size≤_;simp[bt]
theorem Aq{k:Bool}{go:Ss→Ss}(I:∀s,fX k s→fX k (go s)∧jr (go s)){s:Ss}(h:fX k s)(J:s.l.length≤41):fX k (jw go s)∧jr (jw go s):=by
 unfold jw;have j:=(h.sk.Cj [40]);have C:=j.1.sk.Cj [41,46];have e1:(dg [41,46] (kD (dg [40] (kD s)))).l=s.l:=by rw[C.2.1];show(dg [40] (kD s)).l=_;rw[j.2.1];rfl
 exact I _ (C.1.push (by rw[e1];exact J) ⟨h.wd,kV⟩)
theorem AO{k:Bool}{go:Ss→Ss}(P:∀s,fX k s→fX k (go s)∧jr (go s)):∀(j many:Nat)(s:Ss),fX k s→jr s→fX k (iH go j many s).2∧jr (iH go j many s).2
 |0,_,s,h,l=>⟨h,l⟩|j+1,many,s,h,l=>by
  rw[iH];split;·exact⟨h,l⟩
  ·rename_i C;obtain⟨I,J⟩:=Aq P h (l (by simpa using C));cases e:nO [44] (jw go s)with|none=>exact⟨I,J⟩|some T=>obtain⟨d1,d2,R⟩:=I.is e;exact AO P j (many+1) T d1 (fun C=>by rw[d2];exact J (by rw[←R];exact C))
theorem Hg{l:List Nd}(h:∀n∈l,n.fit)(i m:Nat):∀n∈setMany l i m,n.fit:=by
 unfold setMany;induction l generalizing i with
  |nil=>intro n j;simp at j|cons a l ih=>
   intro n j;cases i with
    |zero=>
     rw[List.modify_zero_cons]at j;rcases List.mem_cons.1 j with rfl|j;·exact h a List.mem_cons_self
     ·exact h n (List.mem_cons_of_mem _ j)|succ i=>
     rw[List.modify_succ_cons]at j;rcases List.mem_cons.1 j with rfl|j;·exact h n List.mem_cons_self
     ·exact ih (fun x C=>h x (List.mem_cons_of_mem _ C)) i n j
theorem mF(l:List Nd)(i m:Nat):(setMany l i m).length=l.length:=by unfold setMany;simp
theorem rX{k:Bool}{go:Ss→Ss}(J:∀s,fX k s→fX k (go s)∧jr (go s)){s:Ss}(h:fX k s)(hl:s.l.length≤40){n:Nd}(R:n.fit):fX k (eD go n s)∧jr (eD go n s):=by
 have j:=h.push (n:=n) (by omega) R;have I:jr (gY n s):=fun _=>by show(s.l++[n]).length≤41;rw[List.length_append];simp;omega
 obtain⟨l1,T⟩:=AO J 5 0 _ j I;obtain⟨m1,m2,U⟩:=l1.Cj [125];unfold eD;refine⟨⟨m1.r,fun P=>Hg (l1.f P) _ _,by dsimp only;rw[mF];exact l1.n⟩,fun C=>?_⟩;show(setMany _ _ _).length≤41;rw[mF];exact T (U C)
theorem vH{k:Bool}(j:Bool):∀(f:Nat)(s:Ss),fX k s→fX k (ew j f s)∧jr (ew j f s)
 |0,s,h=>⟨⟨h.r,h.f,h.n⟩,fun h=>by cases h⟩|f+1,s,h=>by
  rw[ew];split;·exact⟨⟨h.r,h.f,h.n⟩,fun h=>by cases h⟩
  ·rename_i hb;have U:s.l.length≤40:=by simp at hb;omega
   have I:∀{s:Ss}{n:Nd},fX k s→s.l.length≤40→n.fit→fX k (gY n s)∧jr (gY n s):=fun{s n}h U hn=>⟨h.push (by omega) hn,fun _=>by show(s.l++[n]).length≤41;rw[List.length_append];simp;omega⟩;have hS:=h.sk;have C:(kD s).l.length≤40:=U;split;·exact I hS C ⟨kV,kV⟩
   ·split;·have m1:=hS.Cj [32];have p1:=m1.1.sk.push (n:=⟨2,ba (tU (dg [32] (kD s))),bt,0,0⟩) (by show(dg [32] (kD s)).l.length≤41;rw[m1.2.1];omega) ⟨m1.1.wd,kV⟩;exact vH j f _ (p1.Cj [46]).1
    ·have J:=vH (k:=k) j f;split;·
      rename_i P e;have R:nO [62] (kD s)=some P:=by cases j<;>simp at e;exact e
      obtain⟨d1,d2,T⟩:=hS.is R;have m:=d1.sk.Cj [123];exact rX J m.1 (by rw[m.2.1];show P.l.length≤40;rw[d2];exact C) ⟨h.wd,d1.wd⟩
     ·split;·
       rename_i P e;have R:nO [33,123] (kD s)=some P:=by cases j<;>simp at e;exact e
       obtain⟨d1,d2,T⟩:=hS.is R;exact rX J d1 (by rw[d2];exact C) ⟨kV,h.wd⟩
      ·split;·
        rename_i P e;have R:nO [63,123] (kD s)=some P:=by cases j<;>simp at e;exact e
        obtain⟨d1,d2,T⟩:=hS.is R;exact rX J d1 (by rw[d2];exact C) ⟨kV,h.wd⟩
       ·exact I hS C ⟨h.wd,kV⟩
theorem Cm(j:Bool){t:ByteArray}(C:t.size≤8000):fX true (ew j 11 (iT t 0 [] false)):=(vH j 11 _ ⟨by show(t.toList.drop 0).length≤8000;rw[List.length_drop,rJ];omega,fun _ n l=>(by cases l),by show([]:List Nd).length≤42;simp⟩).1
theorem DQ{x:List UInt8}{s j:Ss}(e:nO x s=some j):j.l=s.l:=by
 unfold nO at e;split at e;·injection e with e;subst e;rfl
 ·cases e
theorem s9(x:List UInt8)(s:Ss):(dg x s).l=s.l:=by unfold dg;cases e:nO x s with|none=>rfl|some j=>exact DQ e
theorem ud{go:Ss→Ss}(j:∀s,s.l.length≤(go s).l.length)(s:Ss):s.l.length≤(jw go s).l.length:=by unfold jw;refine Nat.le_trans ?_ (j _);show _≤((dg [41,46] (kD (dg [40] (kD s)))).l++_).length;rw[s9];show _≤((dg [40] (kD s)).l++_).length;rw[s9,List.length_append];exact Nat.le_add_right _ _
theorem uJ{go:Ss→Ss}(C:∀s,s.l.length≤(go s).l.length):∀(j many:Nat)(s:Ss),s.l.length≤(iH go j many s).2.l.length
 |0,_,s=>Nat.le_refl _|j+1,many,s=>by
  rw[iH];split;·exact Nat.le_refl _
  ·have h:=ud C s;cases e:nO [44] (jw go s)with|none=>exact h|some I=>have:=uJ C j (many+1) I;rw[DQ e]at this;exact Nat.le_trans h this
theorem nF{go:Ss→Ss}(j:∀s,s.l.length≤(go s).l.length)(n:Nd)(s:Ss):s.l.length≤(eD go n s).l.length:=by unfold eD;dsimp only;rw[mF];refine Nat.le_trans ?_ (uJ j 5 0 _);show _≤(s.l++[n]).length;rw[List.length_append];exact Nat.le_add_right _ _
theorem xU(j:Bool):∀(f:Nat)(s:Ss),s.l.length≤(ew j f s).l.length
 |0,s=>Nat.le_refl _|f+1,s=>by
  have C:∀(s:Ss)(n:Nd),s.l.length≤(gY n s).l.length:=fun s n=>by show _≤(s.l++[n]).length;rw[List.length_append];exact Nat.le_add_right _ _
  have I:=xU j f;rw[ew];split;·exact Nat.le_refl _
  ·split;·exact C (kD s) _
   ·split;·refine Nat.le_trans ?_ (I _);rw[s9];refine Nat.le_trans ?_ (C _ _);show _≤(dg [32] (kD s)).l.length;rw[s9];exact Nat.le_refl _
    ·split;·
      rename_i J e;have P:nO [62] (kD s)=some J:=by cases j<;>simp at e;exact e
      refine Nat.le_trans ?_ (nF I _ _);rw[s9];show _≤J.l.length;rw[DQ P];exact Nat.le_refl _
     ·split;·
       rename_i J e;have P:nO [33,123] (kD s)=some J:=by cases j<;>simp at e;exact e
       refine Nat.le_trans ?_ (nF I _ _);rw[DQ P];exact Nat.le_refl _
      ·split;·
        rename_i J e;have P:nO [63,123] (kD s)=some J:=by cases j<;>simp at e;exact e
        refine Nat.le_trans ?_ (nF I _ _);rw[DQ P];exact Nat.le_refl _
       ·exact C (kD s) _
structure fQ(w w':World)(base rb:Nat):Prop where
 os:w'.os=w.os
 tape:w'.tape=w.tape
 output:w'.output=w.output
 size:w.heap.size≤w'.heap.size
 block:∀b,b<base→b≠rb→w'.heap[b]?=w.heap[b]?
theorem fQ.refl(w:World)(base rb:Nat):fQ w w base rb:=⟨rfl,rfl,rfl,Nat.le_refl _,fun _ _ _=>rfl⟩
theorem fQ.trans{a b c:World}{base rb:Nat}(h:fQ a b base rb)(j:fQ b c base rb):fQ a c base rb:=⟨j.os.trans h.os,j.tape.trans h.tape,j.output.trans h.output,Nat.le_trans h.size j.size,fun k l C=>(j.block k l C).trans (h.block k l C)⟩
theorem aw.lK{w w':World}{l:List Nat}{base rb:Nat}(h:aw w w' l)(C:base≤w.heap.size)(I:∀b∈l,b=rb∨base≤b):fQ w w' base rb:=⟨h.os,h.tape,h.output,h.size,fun b j P=>h.block b (Nat.lt_of_lt_of_le j C) (fun J=>by rcases I b J with q|q;exact P q;omega)⟩
structure cB(W:World)(rb base:Nat)(t:ByteArray)(part:Bool)(a:Nat)(lv:Value)(l:List Nd)(bad:Bool):Prop where
 box:bA W rb [.string t,.int .i64 (a:Int),lv,.bool part,.bool bad]
 row:bV W base lv l
 at_:a≤t.size
 low:rb<base
 sz:base≤W.heap.size
theorem cB.keep{W W':World}{rb base:Nat}{t:ByteArray}{j:Bool}{a:Nat}{lv:Value}{l:List Nd}{bad:Bool}(h:cB W rb base t j a lv l bad)(C:aw W W' []):cB W' rb base t j a lv l bad:=⟨h.box.keep C (by simp),aJ h.row C (fun _ _=>by simp),h.at_,h.low,Nat.le_trans h.sz C.size⟩
theorem cB.AS{W W':World}{rb base:Nat}{t:ByteArray}{j:Bool}{a a':Nat}{lv:Value}{l:List Nd}{bad C:Bool}(h:cB W rb base t j a lv l bad)(J:aw W W' [rb])(P:bA W' rb [.string t,.int .i64 (a':Int),lv,.bool j,.bool C])(I:a'≤t.size):cB W' rb base t j a' lv l C:=⟨P,aJ h.row J (fun b R T=>by have:=(au h.row).lo b R;simp at T;have:=h.low;omega),I,h.low,Nat.le_trans h.sz J.size⟩
theorem cB.push{W P:World}{rb base:Nat}{t:ByteArray}{I:Bool}{a:Nat}{lv J:Value}{l:List Nd}{bad:Bool}(h:cB W rb base t I a lv l bad)(n:Nd)(o:Obj)(C:P.ownsRow base 108 5 J (l.length+1) (l.flatMap Nd.cells++n.cells))(hg:(W.alloc o).grownBy P lv.ownBlock)(T:J.ownBlock=lv.ownBlock∨J.ownBlock=some (W.alloc o).heap.size):cB (P.setCell ⟨rb,2,none⟩ J) rb base t I a J (l++[n]) bad∧fQ W (P.setCell ⟨rb,2,none⟩ J) base rb∧bA P rb [.string t,.int .i64 (a:Int),lv,.bool I,.bool bad]:=by
 obtain⟨hA,hs⟩:=A7 h.row o C hg T;have lo:=(au h.row).lo;have U:=(au C).lo;have hl:=h.low;have hS:=aA P rb 2 J;have R:=hA.trans hS;have hB:=h.box.keep hA (fun j=>by have:=lo _ j;omega);refine⟨⟨hB.set 2 (by simp) _,?_,h.at_,h.low,Nat.le_trans h.sz R.size⟩,R.lK h.sz (fun b j=>?_),hB⟩;·unfold bV;rw[List.length_append,List.flatMap_append];have:=aJ C hS (fun b j hm=>by have:=U b j;simp at hm;omega);simpa using this
 ·rw[List.mem_append]at j;rcases j with j|j;·exact .inr (lo b j)
  ·simp at j;exact .inl j
theorem yU(l:List Nd)(i m:Nat)(h:i<l.length):(l.flatMap Nd.cells).set (i*5+3) (.int .i64 (m:Int))=(setMany l i m).flatMap Nd.cells:=by unfold setMany;induction l generalizing i with|nil=>simp at h|cons a l ih=>cases i with|zero=>rfl|succ i=>rw[List.modify_succ_cons,List.flatMap_cons,List.flatMap_cons,List.set_append_right _ _ (by rw[Nd.aR];omega),Nd.aR,show(i+1)*5+3-5=i*5+3 by omega];congr 1;exact ih i (by simpa using h)
theorem cB.many{W:World}{rb base:Nat}{t:ByteArray}{j:Bool}{a g c:Nat}{l:List Nd}{bad:Bool}(h:cB W rb base t j a (.slice (some ⟨g,0,none⟩) l.length c) l bad)(i m:Nat)(hi:i<l.length):cB (W.setCell ⟨g,i*5+3,none⟩ (.int .i64 (m:Int))) rb base t j a (.slice (some ⟨g,0,none⟩) l.length c) (setMany l i m) bad∧fQ W (W.setCell ⟨g,i*5+3,none⟩ (.int .i64 (m:Int))) base rb:=by
 have I:=aA W g (i*5+3) (.int .i64 (m:Int));have hg:g∈an (.slice (some ⟨g,0,none⟩) l.length c):=by simp[an,aG]
 have h1:=(au h.row).lo g hg;have hl:=h.low;refine⟨⟨h.box.keep I (by simp;omega),?_,h.at_,h.low,Nat.le_trans h.sz I.size⟩,I.lK h.sz (fun b J=>by simp at J;omega)⟩;have R:=h.row;unfold bV at R⊢;obtain⟨h2,U⟩:=R;rw[mF];refine⟨by rw[rY,mF],?_⟩;rcases U with⟨e,_⟩|⟨g',cap,C,e,P,J,h4,h5,h6,h7⟩;·simp at e
 ·injection e with e1 e2 T;injection e1 with e1;injection e1 with e1;subst e1 T;refine .inr ⟨g,c,C.setIfInBounds (i*5+3) (.int .i64 (m:Int)),rfl,P,heap_setCell_same _ _ _ _ _ _ J,h4,h5,by simpa using h6,?_⟩;rw[Array.toList_setIfInBounds,List.take_set,h7];exact yU l i m hi
theorem JH(x:List UInt8){t:ByteArray}{a rb base:Nat}{lv:Value}{j bad:Bool}{l:List Nd}{w:World}(J:x.length≤8000)(I:t.size≤8000)(h:cB w rb base t j a lv l bad):Calls Tryz.prog 178 #[.pointer (some ⟨rb,0,none⟩),.string (ba x)] w fun e w'=>e=.returned (.bool (jJ x t a bad))∧cB w' rb base t j (k6 x t a bad) lv l bad∧aw w w' [rb]:=(Is x t a rb lv j bad w J I h.at_ h.box).mono fun _ _ C=>⟨C.1,h.AS C.2.1 C.2.2 (DP h.at_),C.2.1⟩
theorem mG(x:List UInt8){t:ByteArray}{a rb base:Nat}{lv:Value}{j bad:Bool}{l:List Nd}{w:World}(J:x.length≤8000)(I:t.size≤8000)(h:cB w rb base t j a lv l bad):Calls Tryz.prog 177 #[.pointer (some ⟨rb,0,none⟩),.string (ba x)] w fun e w'=>e=.returned (.tuple #[])∧cB w' rb base t j (k6 x t a bad) lv l (!jJ x t a bad)∧aw w w' [rb]:=(Hj x t a rb lv j bad w J I h.at_ h.box).mono fun _ _ C=>⟨C.1,h.AS C.2.1 C.2.2 (DP h.at_),C.2.1⟩
theorem kc{t:ByteArray}{a rb base:Nat}{lv:Value}{j bad:Bool}{l:List Nd}{w:World}(I:t.size≤8000)(h:cB w rb base t j a lv l bad):Calls Tryz.prog 176 #[.pointer (some ⟨rb,0,none⟩)] w fun e w'=>e=.returned (.string (ba ((t.toList.drop a).takeWhile gQ)))∧cB w' rb base t j (iN t a) lv l bad∧aw w w' [rb]:=(Hk t a rb lv j bad w I h.at_ h.box).mono fun _ _ C=>⟨C.1,h.AS C.2.1 C.2.2 (JJ h.at_),C.2.1⟩
def lU(w w':World)(rb base:Nat)(t:ByteArray)(j:Bool)(s:Ss):Prop:=∃a lv l bad,s=iT t a l bad∧cB w' rb base t j a lv l bad∧fQ w w' base rb
def IA(j:Bool)(t:ByteArray)(f:Nat):Prop:=∀(rb base a deep:Nat)(lv:Value)(l:List Nd)(bad:Bool)(w:World),f+deep=12→l.length≤42→cB w rb base t j a lv l bad→Calls Tryz.prog 157 #[.pointer (some ⟨rb,0,none⟩),.int .i64 (deep:Int)] w fun e w'=>e=.returned (.tuple #[])∧lU w w' rb base t j (ew j f (iT t a l bad))
theorem tA(C:Bool)(t:ByteArray)(rb base a j:Nat)(lv:Value)(l:List Nd)(bad:Bool)(w:World)(hd:j≤12)(h:j=12∨bad=true∨40<l.length)(hl:l.length≤42)(I:cB w rb base t C a lv l bad):Calls Tryz.prog 157 #[.pointer (some ⟨rb,0,none⟩),.int .i64 (j:Int)] w fun e w'=>e=.returned (.tuple #[])∧cB w' rb base t C a lv l true∧fQ w w' base rb:=by
 have c4:=I.box.cell 4 _ rfl;have c2:=I.box.cell 2 _ rfl;have bz:=I.box.fz;have HS:=aa I;have P:Hid (cB (w.setCell ⟨rb,4,none⟩ (.bool true)) rb base t C a lv l true∧fQ w (w.setCell ⟨rb,4,none⟩ (.bool true)) base rb):=aa ⟨I.AS (aA w rb 4 _) (I.box.set 4 (by simp) _) I.at_,(aA w rb 4 _).lK I.sz (fun b R=>by simp at R;exact .inl R)⟩;obtain⟨p,c,rfl⟩:=aq I.row;clear I;cases bad;·
  by_cases J:j=12;·subst J;clear h;go_enter Tryz.func157,Tryz.ntmps157;go_wp2_with fail;refine bodyPost_ret (results_none rfl _ _ _) rfl ?_;exact⟨rfl,P.out⟩
  ·have T:40<l.length:=by
    rcases h with h|h|h;·exact absurd h J
    ·cases h
    ·exact h
   have U:j≤11:=by omega
   clear h J;go_enter Tryz.func157,Tryz.ntmps157;go_wp2_with fail;refine bodyPost_ret (results_none rfl _ _ _) rfl ?_;exact⟨rfl,P.out⟩
 ·clear h;go_enter Tryz.func157,Tryz.ntmps157;go_wp2_with fail;refine bodyPost_ret (results_none rfl _ _ _) rfl ?_;exact⟨rfl,P.out⟩
theorem ku(w:World)(n:Nd):∀j u,n.cells[j]?=some u→(w.alloc (.cells #[.int .i64 n.op,.string n.name,.string n.peer,.int .i64 n.many,.int .i64 n.sort] 108)).cell? (Addr.add ⟨w.heap.size,0,none⟩ j)=some u:=fun j u C=>bV.cell (l:=[n]) (c:=1) (gC w n 0 w.heap.size rfl (Nat.zero_le _)) j u (by simpa using C)
theorem zK(R:Bool)(t:ByteArray)(rb base a I:Nat)(lv:Value)(l:List Nd)(w:World)(ht:t.size≤8000)(hd:I≤11)(hl:l.length≤40)(X:ByteArray)(hX:ba ((t.toList.drop a).takeWhile gQ)=X)(av:(X.toList==[101,110,100])=true)(U:cB w rb base t R a lv l false):Calls Tryz.prog 157 #[.pointer (some ⟨rb,0,none⟩),.int .i64 (I:Int)] w fun e w'=>e=.returned (.tuple #[])∧∃lv',cB w' rb base t R (iN t a) lv' (l++[⟨0,bt,bt,0,0⟩]) false∧fQ w w' base rb:=by have c4:=U.box.cell 4 _ rfl;have c2:=U.box.cell 2 _ rfl;have HW:=kc ht U;rw[hX]at HW;have ao:=aa HW;obtain⟨p,c,rfl⟩:=aq U.row;obtain⟨i0,hi,ac,ad,af⟩:=info_parts Tryz.mi;have HI:=aa (And.intro hi (And.intro ac (And.intro ad af)));have ah:=aa U.sz;clear U HW hi ac ad af hX;go_enter Tryz.func157,Tryz.ntmps157;go_wp2_with(first|(go_at_call 176;refine ao.out.mono ?_;rintro e w1⟨rfl,C,ab⟩;have T:=aa C;have ag:=aa ab;have d2:=C.box.cell 2 _ rfl;have dz:=C.box.fz;clear C ab)|(at_builtin;refine wpList_append_own_at _ rfl (.tmp 45) (.tmp 47) 23 rfl base 108 i0 (.agg #[.int .i64 0,.string ByteArray.empty,.string ByteArray.empty,.int .i64 0,.int .i64 0]) 5 56 Tryz.underlying23 HI.out.1 HI.out.2.1 HI.out.2.2.1 HI.out.2.2.2 rfl (by decide) (.slice p l.length c) l.length (l.flatMap Nd.cells) rfl (aL T.out.row (ai _ _)) ⟨w1.heap.size,0,none⟩ 1 1 (Nd.cells ⟨0,bt,bt,0,0⟩) rfl rfl (ku _ ⟨0,bt,bt,0,0⟩) (Nd.cells_one _) (by unfold maxLen;omega) (by omega) (by have:=T.out.sz;simp;omega) ?_;intro v7 w7 j P _ J;have HP:=aa (T.out.push ⟨0,bt,bt,0,0⟩ _ j P J);have e2:=HP.out.2.2.cell 2 _ rfl;have ez:=HP.out.2.2.fz;obtain⟨p7,c7,rfl⟩:=aq j;clear j P J));go_end0;exact⟨rfl,_,HP.out.1,(ag.out.lK ah.out (fun b hb=>by simp at hb;exact .inl hb)).trans HP.out.2.1⟩
theorem Bf(x:List UInt8){t:ByteArray}{a rb base:Nat}{lv:Value}{j bad:Bool}{l:List Nd}{w:World}(J:x.length≤8000)(I:t.size≤8000)(C:jJ x t a bad=false)(h:cB w rb base t j a lv l bad):Calls Tryz.prog 178 #[.pointer (some ⟨rb,0,none⟩),.string (ba x)] w fun e w'=>e=.returned (.bool false)∧cB w' rb base t j a lv l bad∧aw w w' [rb]:=by have:=JH x J I h;unfold k6 at this;rw[C]at this;exact this
theorem Fj(x:List UInt8){t:ByteArray}{a rb base:Nat}{lv:Value}{j bad:Bool}{l:List Nd}{w:World}(J:x.length≤8000)(I:t.size≤8000)(C:jJ x t a bad=true)(h:cB w rb base t j a lv l bad):Calls Tryz.prog 178 #[.pointer (some ⟨rb,0,none⟩),.string (ba x)] w fun e w'=>e=.returned (.bool true)∧cB w' rb base t j (k6 x t a bad) lv l bad∧aw w w' [rb]:=by have:=JH x J I h;rw[C]at this;exact this
theorem dx{w w':World}{base rb:Nat}(h:aw w w' [rb])(j:base≤w.heap.size):fQ w w' base rb:=h.lK j (fun b j=>by simp at j;exact .inl j)
theorem tB(I:Bool)(t:ByteArray)(rb base a af:Nat)(lv:Value)(l:List Nd)(w:World)(ht:t.size≤8000)(hd:af≤11)(hl:l.length≤40)(X:ByteArray)(hX:ba ((t.toList.drop a).takeWhile gQ)=X)(a5:(X.toList==[101,110,100])=false)(a8:(X.toList==[114,101,99])=false)(h1:I=false→jJ [62] t (iN t a) false=false)(h2:I=true→jJ [33,123] t (iN t a) false=false)(h3:I=true→jJ [63,123] t (iN t a) false=false)(hs:cB w rb base t I a lv l false):Calls Tryz.prog 157 #[.pointer (some ⟨rb,0,none⟩),.int .i64 (af:Int)] w fun e w'=>e=.returned (.tuple #[])∧∃lv',cB w' rb base t I (iN t a) lv' (l++[⟨1,X,bt,0,0⟩]) false∧fQ w w' base rb:=by
 have c4:=hs.box.cell 4 _ rfl;have c2:=hs.box.cell 2 _ rfl;have HW:=kc ht hs;rw[hX]at HW;have a0:=aa HW;obtain⟨p,c,rfl⟩:=aq hs.row;obtain⟨i0,hi,av,ax,ay⟩:=info_parts Tryz.mi;have HI:=aa (And.intro hi (And.intro av (And.intro ax ay)));have az:=aa hs.sz;have HT:=aa ht;cases I;·have HQ:=aa (h1 rfl);clear hs HW hi av ax ay hX h1 h2 h3 ht;go_enter Tryz.func157,Tryz.ntmps157;go_wp2_with(first|(go_at_call 176;refine a0.out.mono ?_;rintro e w1⟨rfl,J,ab⟩;have U:=aa J;have ag:=aa ab;have d3:=J.box.cell 3 _ rfl;have dz:=J.box.fz;clear J ab)|(go_at_call 178;refine(Bf [62] (by simp) HT.out HQ.out U.out).mono ?_;rintro e w2⟨rfl,C,ac⟩;have P:=aa C;have ah:=aa ac;have f3:=C.box.cell 3 _ rfl;have f2:=C.box.cell 2 _ rfl;have fz:=C.box.fz;clear C ac)|(at_builtin;refine wpList_append_own_at _ rfl (.tmp 31) (.tmp 34) 23 rfl base 108 i0 (.agg #[.int .i64 0,.string ByteArray.empty,.string ByteArray.empty,.int .i64 0,.int .i64 0]) 5 56 Tryz.underlying23 HI.out.1 HI.out.2.1 HI.out.2.2.1 HI.out.2.2.2 rfl (by decide) (.slice p l.length c) l.length (l.flatMap Nd.cells) rfl (aL P.out.row (ai _ _)) ⟨w2.heap.size,0,none⟩ 1 1 (Nd.cells ⟨1,X,bt,0,0⟩) rfl rfl (ku _ ⟨1,X,bt,0,0⟩) (Nd.cells_one _) (by unfold maxLen;omega) (by omega) (by have:=P.out.sz;simp;omega) ?_;intro v7 w7 j T _ R;have HP:=aa (P.out.push ⟨1,X,bt,0,0⟩ _ j T R);have e2:=HP.out.2.2.cell 2 _ rfl;have ez:=HP.out.2.2.fz;obtain⟨p7,c7,rfl⟩:=aq j;clear j T R));go_end0;exact⟨rfl,_,HP.out.1,((dx ag.out az.out).trans (dx ah.out U.out.sz)).trans HP.out.2.1⟩
 ·have HQ:=aa (h2 rfl);have a3:=aa (h3 rfl);clear hs HW hi av ax ay hX h1 h2 h3 ht;go_enter Tryz.func157,Tryz.ntmps157;go_wp2_with(first|(go_at_call 176;refine a0.out.mono ?_;rintro e w1⟨rfl,J,ab⟩;have U:=aa J;have ag:=aa ab;have d3:=J.box.cell 3 _ rfl;have dz:=J.box.fz;clear J ab)|(go_at_call 178;(fail_if_success(have:=P));refine(Bf [33,123] (by simp) HT.out HQ.out U.out).mono ?_;rintro e w2⟨rfl,C,ac⟩;have P:=aa C;have ah:=aa ac;have f3:=C.box.cell 3 _ rfl;have f2:=C.box.cell 2 _ rfl;have fz:=C.box.fz;clear C ac d3 dz)|(go_at_call 178;have a4:=P;refine(Bf [63,123] (by simp) HT.out a3.out P.out).mono ?_;rintro e w3⟨rfl,ad,a1⟩;have ao:=aa ad;have a2:=aa a1;clear f3 f2 fz;have f3:=ad.box.cell 3 _ rfl;have f2:=ad.box.cell 2 _ rfl;have fz:=ad.box.fz;clear ad a1)|(at_builtin;refine wpList_append_own_at _ rfl (.tmp 31) (.tmp 34) 23 rfl base 108 i0 (.agg #[.int .i64 0,.string ByteArray.empty,.string ByteArray.empty,.int .i64 0,.int .i64 0]) 5 56 Tryz.underlying23 HI.out.1 HI.out.2.1 HI.out.2.2.1 HI.out.2.2.2 rfl (by decide) (.slice p l.length c) l.length (l.flatMap Nd.cells) rfl (aL ao.out.row (ai _ _)) ⟨w3.heap.size,0,none⟩ 1 1 (Nd.cells ⟨1,X,bt,0,0⟩) rfl rfl (ku _ ⟨1,X,bt,0,0⟩) (Nd.cells_one _) (by unfold maxLen;omega) (by omega) (by have:=ao.out.sz;simp;omega) ?_;intro v7 w7 j T _ R;have HP:=aa (ao.out.push ⟨1,X,bt,0,0⟩ _ j T R);have e2:=HP.out.2.2.cell 2 _ rfl;have ez:=HP.out.2.2.fz;obtain⟨p7,c7,rfl⟩:=aq j;clear j T R));go_end0;exact⟨rfl,_,HP.out.1,(((dx ag.out az.out).trans (dx ah.out U.out.sz)).trans (dx a2.out P.out.sz)).trans HP.out.2.1⟩
def vc(j:Bool)(t:ByteArray)(f:Nat):Prop:=∀(rb base a deep:Nat)(lv:Value)(l:List Nd)(bad:Bool)(w:World)(n:Nd),f+deep=11→l.length≤40→cB w rb base t j a lv l bad→Calls Tryz.prog 179 #[.pointer (some ⟨rb,0,none⟩),.agg #[.int .i64 n.op,.string n.name,.string n.peer,.int .i64 n.many,.int .i64 n.sort],.int .i64 (deep:Int)] w fun e w'=>e=.returned (.tuple #[])∧lU w w' rb base t j (eD (ew j f) n (iT t a l bad))
theorem Io(w W:World)(o m s:Int)(x y:ByteArray)(h:W=w.alloc (.cells #[.int .i64 o,.string x,.string y,.int .i64 m,.int .i64 s] 108)):aw w W []∧bA W w.heap.size [.int .i64 o,.string x,.string y,.int .i64 m,.int .i64 s]:=by subst h;exact⟨ak (ai w _),bA.new w [.int .i64 o,.string x,.string y,.int .i64 m,.int .i64 s] 108⟩
theorem zL(t:ByteArray)(f rb base a j:Nat)(lv:Value)(l:List Nd)(w:World)(ht:t.size≤8000)(ay:vc false t f)(hd:f+1+j=12)(hl:l.length≤40)(X:ByteArray)(hX:ba ((t.toList.drop a).takeWhile gQ)=X)(bs:(X.toList==[101,110,100])=false)(bv:(X.toList==[114,101,99])=false)(hq:jJ [62] t (iN t a) false=true)(hs:cB w rb base t false a lv l false):Calls Tryz.prog 157 #[.pointer (some ⟨rb,0,none⟩),.int .i64 (j:Int)] w fun e w'=>e=.returned (.tuple #[])∧lU w w' rb base t false (eD (ew false f) ⟨3,X,ba (tU (iT t (k6 [62] t (iN t a) false) l false)),0,0⟩ (dg [123] (kD (iT t (k6 [62] t (iN t a) false) l false)))):=by
 simp only[yr,ry,zZ,rC];have c4:=hs.box.cell 4 _ rfl;have c2:=hs.box.cell 2 _ rfl;have HW:=kc ht hs;rw[hX]at HW;have bi:=aa HW;obtain⟨p,c,rfl⟩:=aq hs.row;have be:=aa hs.sz;have HT:=aa ht;have br:j≤11:=by omega
 obtain⟨U,ad⟩:∃x,k6 [62] t (iN t a) false=x:=⟨_,rfl⟩;rw[ad];obtain⟨Y,hY⟩:∃x,ba ((t.toList.drop U).takeWhile gQ)=x:=⟨_,rfl⟩;rw[hY];obtain⟨bk,J⟩:∃x,eD (ew false f) ⟨3,X,Y,0,0⟩ (iT t (k6 [123] t (iN t U) false) l !jJ [123] t (iN t U) false)=x:=⟨_,rfl⟩;rw[J];have HQ:Hid (∀C,cB C rb base t false (iN t a) (.slice p l.length c) l false→Calls Tryz.prog 178 #[.pointer (some ⟨rb,0,none⟩),.string ⟨#[62]⟩] C fun e w'=>e=.returned (.bool true)∧cB w' rb base t false U (.slice p l.length c) l false∧aw C w' [rb]):=aa (fun C h1=>by have:=Fj [62] (by simp) ht hq h1;rw[ad]at this;exact this);have bf:Hid (∀C,cB C rb base t false U (.slice p l.length c) l false→Calls Tryz.prog 176 #[.pointer (some ⟨rb,0,none⟩)] C fun e w'=>e=.returned (.string Y)∧cB w' rb base t false (iN t U) (.slice p l.length c) l false∧aw C w' [rb]):=aa (fun C h1=>by have:=kc ht h1;rw[hY]at this;exact this);have HC:Hid (∀C,cB C rb base t false (k6 [123] t (iN t U) false) (.slice p l.length c) l (!jJ [123] t (iN t U) false)→Calls Tryz.prog 179 #[.pointer (some ⟨rb,0,none⟩),.agg #[.int .i64 3,.string X,.string Y,.int .i64 0,.int .i64 0],.int .i64 (j:Int)] C fun e w'=>e=.returned (.tuple #[])∧lU C w' rb base t false bk):=aa (fun C h1=>by have:=ay rb base _ j _ _ _ C ⟨3,X,Y,0,0⟩ (by omega) hl h1;rw[J]at this;exact this);have bp:=aa hs;clear hs HW hX ht ay hd ad hY J hq;go_enter Tryz.func157,Tryz.ntmps157;go_wp2_with(first|(go_at_call 176;(fail_if_success(have:=ab));refine bi.out.mono ?_;rintro e C⟨rfl,T,ao⟩;have ab:=aa T;have a2:=aa ao;have d3:=T.box.cell 3 _ rfl;have dz:=T.box.fz;clear T ao)|(go_at_call 178;refine(HQ.out _ ab.out).mono ?_;rintro e w2⟨rfl,a0,av⟩;have ac:=aa a0;have a3:=aa av;clear a0 av d3 dz)|(go_at_call 176;have bn:=ac;refine(bf.out _ ac.out).mono ?_;rintro e w3⟨rfl,ah,ax⟩;have R:=aa ah;have a4:=aa ax;have l3:=ah.box.lt;clear ah ax)|(go_at_call 177;go_must(obtain⟨W4,af⟩:∃W4,W4=w3.alloc (.cells #[.int .i64 3,.string X,.string Y,.int .i64 0,.int .i64 0] 108):=⟨_,rfl⟩;rw[←af];have bg:=aa af;clear af;have P:=aa (Io w3 W4 3 0 0 X Y bg.out);refine(mG [123] (by simp) HT.out (R.out.keep P.out.1)).mono ?_;rintro e w5⟨rfl,a1,ag⟩;have bb:=aa a1;have a5:=aa ag;have I:=aa (P.out.2.keep ag (by have:=R.out.box.lt;simp;omega));have n0:=I.out.cell 0 _ rfl;have n1:=I.out.cell 1 _ rfl;have n2:=I.out.cell 2 _ rfl;have n3:=I.out.cell 3 _ rfl;have n4:=I.out.cell 4 _ rfl;clear a1 ag))|(go_at_call 179;refine(HC.out _ bb.out).mono ?_;rintro e w6⟨rfl,az⟩;have a8:=aa az;clear az));go_end0;obtain⟨a9,bm,l9,b9,h1,h2,h3⟩:=a8.out;have k1:=((dx a2.out be.out).trans (dx a3.out ab.out.sz)).trans (dx a4.out ac.out.sz);have k2:=(P.out.1.lK (rb:=rb) R.out.sz (by simp)).trans (dx a5.out (R.out.keep P.out.1).sz);exact⟨rfl,a9,bm,l9,b9,h1,h2,(k1.trans k2).trans h3⟩
theorem yB(t:ByteArray)(f rb base a j:Nat)(lv:Value)(l:List Nd)(w:World)(ht:t.size≤8000)(ad:vc true t f)(hd:f+1+j=12)(hl:l.length≤40)(X:ByteArray)(hX:ba ((t.toList.drop a).takeWhile gQ)=X)(a3:(X.toList==[101,110,100])=false)(a4:(X.toList==[114,101,99])=false)(hq:jJ [33,123] t (iN t a) false=true)(T:cB w rb base t true a lv l false):Calls Tryz.prog 157 #[.pointer (some ⟨rb,0,none⟩),.int .i64 (j:Int)] w fun e w'=>e=.returned (.tuple #[])∧lU w w' rb base t true (eD (ew true f) ⟨5,bt,X,0,0⟩ (iT t (k6 [33,123] t (iN t a) false) l false)):=by
 have c4:=T.box.cell 4 _ rfl;have c2:=T.box.cell 2 _ rfl;have HW:=kc ht T;rw[hX]at HW;have az:=aa HW;obtain⟨p,c,rfl⟩:=aq T.row;have ay:=aa T.sz;have HT:=aa ht;have a2:j≤11:=by omega
 obtain⟨A2,R⟩:∃x,k6 [33,123] t (iN t a) false=x:=⟨_,rfl⟩;rw[R];obtain⟨a0,C⟩:∃x,eD (ew true f) ⟨5,bt,X,0,0⟩ (iT t A2 l false)=x:=⟨_,rfl⟩;rw[C];have HQ:Hid (∀I,cB I rb base t true (iN t a) (.slice p l.length c) l false→Calls Tryz.prog 178 #[.pointer (some ⟨rb,0,none⟩),.string ⟨#[33,123]⟩] I fun e w'=>e=.returned (.bool true)∧cB w' rb base t true A2 (.slice p l.length c) l false∧aw I w' [rb]):=aa (fun I U=>by have:=Fj [33,123] (by simp) ht hq U;rw[R]at this;exact this);have HC:Hid (∀I,cB I rb base t true A2 (.slice p l.length c) l false→Calls Tryz.prog 179 #[.pointer (some ⟨rb,0,none⟩),.agg #[.int .i64 5,.string ⟨#[]⟩,.string X,.int .i64 0,.int .i64 0],.int .i64 (j:Int)] I fun e w'=>e=.returned (.tuple #[])∧lU I w' rb base t true a0):=aa (fun I U=>by have:=ad rb base _ j _ _ _ I ⟨5,bt,X,0,0⟩ (by omega) hl U;rw[C]at this;exact this);clear T HW hX ht ad hd R C hq;go_enter Tryz.func157,Tryz.ntmps157;go_wp2_with(first|(go_at_call 176;(fail_if_success(have:=P));refine az.out.mono ?_;rintro e I⟨rfl,J,ab⟩;have P:=aa J;have ah:=aa ab;have d3:=J.box.cell 3 _ rfl;have dz:=J.box.fz;clear J ab)|(go_at_call 178;refine(HQ.out _ P.out).mono ?_;rintro e w2⟨rfl,ag,ac⟩;have ax:=aa ag;have ao:=aa ac;clear ag ac d3 dz)|(go_at_call 179;refine(HC.out _ ax.out).mono ?_;rintro e w6⟨rfl,af⟩;have av:=aa af;clear af));go_end0;obtain⟨a9,a1,l9,b9,U,h2,h3⟩:=av.out;exact⟨rfl,a9,a1,l9,b9,U,h2,((dx ah.out ay.out).trans (dx ao.out P.out.sz)).trans h3⟩
theorem yA(t:ByteArray)(f rb base a j:Nat)(lv:Value)(l:List Nd)(w:World)(ht:t.size≤8000)(af:vc true t f)(hd:f+1+j=12)(hl:l.length≤40)(X:ByteArray)(hX:ba ((t.toList.drop a).takeWhile gQ)=X)(a8:(X.toList==[101,110,100])=false)(bb:(X.toList==[114,101,99])=false)(hf:jJ [33,123] t (iN t a) false=false)(hq:jJ [63,123] t (iN t a) false=true)(hs:cB w rb base t true a lv l false):Calls Tryz.prog 157 #[.pointer (some ⟨rb,0,none⟩),.int .i64 (j:Int)] w fun e w'=>e=.returned (.tuple #[])∧lU w w' rb base t true (eD (ew true f) ⟨6,bt,X,0,0⟩ (iT t (k6 [63,123] t (iN t a) false) l false)):=by
 have c4:=hs.box.cell 4 _ rfl;have c2:=hs.box.cell 2 _ rfl;have HW:=kc ht hs;rw[hX]at HW;have a1:=aa HW;obtain⟨p,c,rfl⟩:=aq hs.row;have a0:=aa hs.sz;have HT:=aa ht;have a5:j≤11:=by omega
 have HF:=aa hf;obtain⟨A2,U⟩:∃x,k6 [63,123] t (iN t a) false=x:=⟨_,rfl⟩;rw[U];obtain⟨a2,C⟩:∃x,eD (ew true f) ⟨6,bt,X,0,0⟩ (iT t A2 l false)=x:=⟨_,rfl⟩;rw[C];have HQ:Hid (∀I,cB I rb base t true (iN t a) (.slice p l.length c) l false→Calls Tryz.prog 178 #[.pointer (some ⟨rb,0,none⟩),.string ⟨#[63,123]⟩] I fun e w'=>e=.returned (.bool true)∧cB w' rb base t true A2 (.slice p l.length c) l false∧aw I w' [rb]):=aa (fun I h1=>by have:=Fj [63,123] (by simp) ht hq h1;rw[U]at this;exact this);have HC:Hid (∀I,cB I rb base t true A2 (.slice p l.length c) l false→Calls Tryz.prog 179 #[.pointer (some ⟨rb,0,none⟩),.agg #[.int .i64 6,.string ⟨#[]⟩,.string X,.int .i64 0,.int .i64 0],.int .i64 (j:Int)] I fun e w'=>e=.returned (.tuple #[])∧lU I w' rb base t true a2):=aa (fun I h1=>by have:=af rb base _ j _ _ _ I ⟨6,bt,X,0,0⟩ (by omega) hl h1;rw[C]at this;exact this);clear hs HW hX ht af hd U C hq hf;go_enter Tryz.func157,Tryz.ntmps157;go_wp2_with(first|(go_at_call 176;(fail_if_success(have:=T));refine a1.out.mono ?_;rintro e I⟨rfl,P,ab⟩;have T:=aa P;have ao:=aa ab;have d3:=P.box.cell 3 _ rfl;have dz:=P.box.fz;clear P ab)|(go_at_call 178;(fail_if_success(have:=J));refine(Bf [33,123] (by simp) HT.out HF.out T.out).mono ?_;rintro e w8⟨rfl,R,ad⟩;have J:=aa R;have ax:=aa ad;clear d3 dz;have d3:=R.box.cell 3 _ rfl;have dz:=R.box.fz;clear R ad)|(go_at_call 178;have a4:=J;refine(HQ.out _ J.out).mono ?_;rintro e w2⟨rfl,ah,ac⟩;have az:=aa ah;have av:=aa ac;clear ah ac d3 dz)|(go_at_call 179;refine(HC.out _ az.out).mono ?_;rintro e w6⟨rfl,ag⟩;have ay:=aa ag;clear ag));go_end0;obtain⟨a9,a3,l9,b9,h1,h2,h3⟩:=ay.out;exact⟨rfl,a9,a3,l9,b9,h1,h2,(((dx ao.out a0.out).trans (dx ax.out T.out.sz)).trans (dx av.out J.out.sz)).trans h3⟩
theorem cB.drew{W:World}{rb base:Nat}{t:ByteArray}{j:Bool}{a:Nat}{lv:Value}{l:List Nd}{bad:Bool}(h:cB W rb base t j a lv l bad):cB W.drew rb base t j a lv l bad:=h.keep (aw.refl _).drew
theorem zM(j:Bool)(t:ByteArray)(f rb base a C:Nat)(lv:Value)(l:List Nd)(w:World)(ht:t.size≤8000)(T:IA j t f)(hd:f+1+C=12)(hl:l.length≤40)(X:ByteArray)(hX:ba ((t.toList.drop a).takeWhile gQ)=X)(b2:(X.toList==[101,110,100])=false)(b3:(X.toList==[114,101,99])=true)(hs:cB w rb base t j a lv l false):Calls Tryz.prog 157 #[.pointer (some ⟨rb,0,none⟩),.int .i64 (C:Int)] w fun e w'=>e=.returned (.tuple #[])∧lU w w' rb base t j (ew j f (dg [46] (gY ⟨2,ba (tU (dg [32] (kD (iT t a l false)))),bt,0,0⟩ (kD (dg [32] (kD (iT t a l false))))))):=by
 simp only[yr,ry,zZ,rC];have c4:=hs.box.cell 4 _ rfl;have c2:=hs.box.cell 2 _ rfl;have HW:=kc ht hs;rw[hX]at HW;have bv:=aa HW;obtain⟨p,c,rfl⟩:=aq hs.row;obtain⟨i0,hi,a4,a5,a8⟩:=info_parts Tryz.mi;have HI:=aa (And.intro hi (And.intro a4 (And.intro a5 a8)));have br:=aa hs.sz;have HT:=aa ht;have bL:=aa T;have b1:C≤11:=by omega
 have HD:=aa hd;obtain⟨A2,ao⟩:∃x,k6 [32] t (iN t a) false=x:=⟨_,rfl⟩;obtain⟨B2,av⟩:∃x,jJ [32] t (iN t a) false=x:=⟨_,rfl⟩;rw[ao,av];obtain⟨Y,hY⟩:∃x,ba ((t.toList.drop A2).takeWhile gQ)=x:=⟨_,rfl⟩;rw[hY];obtain⟨bx,R⟩:∃x,ew j f (iT t (k6 [46] t (iN t A2) !B2) (l++[⟨2,Y,bt,0,0⟩]) !jJ [46] t (iN t A2) !B2)=x:=⟨_,rfl⟩;rw[R];have bm:Hid (∀I,cB I rb base t j (iN t a) (.slice p l.length c) l false→Calls Tryz.prog 177 #[.pointer (some ⟨rb,0,none⟩),.string ⟨#[32]⟩] I fun e w'=>e=.returned (.tuple #[])∧cB w' rb base t j A2 (.slice p l.length c) l (!B2)∧aw I w' [rb]):=aa (fun I h1=>by have:=mG [32] (by simp) ht h1;rw[ao,av]at this;exact this);have bs:Hid (∀I,cB I rb base t j A2 (.slice p l.length c) l (!B2)→Calls Tryz.prog 176 #[.pointer (some ⟨rb,0,none⟩)] I fun e w'=>e=.returned (.string Y)∧cB w' rb base t j (iN t A2) (.slice p l.length c) l (!B2)∧aw I w' [rb]):=aa (fun I h1=>by have:=kc ht h1;rw[hY]at this;exact this);have HO:Hid (∀I ax,cB I rb base t j (k6 [46] t (iN t A2) !B2) ax (l++[⟨2,Y,bt,0,0⟩]) (!jJ [46] t (iN t A2) !B2)→Calls Tryz.prog 157 #[.pointer (some ⟨rb,0,none⟩),.int .i64 (C+1:Int)] I fun e w'=>e=.returned (.tuple #[])∧lU I w' rb base t j bx):=aa (fun I ax h1=>by have:=T rb base _ (C+1) ax _ _ I (by omega) (by simp;omega) h1;rw[R]at this;exact this);clear hs HW hi a4 a5 a8 hX ht T hd ao av hY R;go_enter Tryz.func157,Tryz.ntmps157;go_wp2_with(first|(go_at_call 176;(fail_if_success(have:=ag));refine bv.out.mono ?_;rintro e I⟨rfl,a2,ay⟩;have ag:=aa a2;have bb:=aa ay;clear a2 ay)|(go_at_call 177;(fail_if_success(have:=ab));refine(bm.out _ ag.out).mono ?_;rintro e w2⟨rfl,ac,az⟩;have ab:=aa ac;have be:=aa az;have d2:=ac.box.cell 2 _ rfl;have dz:=ac.box.fz;clear ac az));have bi:=aa ((dx bb.out br.out).trans (dx be.out ag.out.sz));go_region_law(first|(go_simp;go_at_call 176;refine(bs.out _ (by first|exact ab.out.drew|exact ab.out)).mono ?_;rintro e w3⟨rfl,U,P⟩;have ah:=aa U;have bf:=aa (show aw w2 w3 [rb]from⟨P.os,P.tape,P.output,P.size,P.block⟩);have f2:=U.box.cell 2 _ rfl;have fz:=U.box.fz;have l3:=U.box.lt;clear U P)|(refine fF rfl (.tmp 60) (.tmp 64) 23 rfl base 108 i0 (.agg #[.int .i64 0,.string ByteArray.empty,.string ByteArray.empty,.int .i64 0,.int .i64 0]) 5 56 Tryz.underlying23 HI.out.1 HI.out.2.1 HI.out.2.2.1 HI.out.2.2.2 rfl (by decide) (.slice p l.length c) l.length (l.flatMap Nd.cells) (by simp[Act.eval]) (aL ah.out.row (ai _ _)) ⟨w3.heap.size,0,none⟩ 1 1 (Nd.cells ⟨2,Y,bt,0,0⟩) (by simp[Act.eval]) rfl (ku _ ⟨2,Y,bt,0,0⟩) (Nd.cells_one _) (by unfold maxLen;omega) (by omega) (by have:=ah.out.sz;simp;omega) ?_;intro v7 w7 J af ad;have HP:=aa (ah.out.push ⟨2,Y,bt,0,0⟩ _ J af ad);have e2:=HP.out.2.2.cell 2 _ rfl;have ez:=HP.out.2.2.fz;obtain⟨p7,c7,rfl⟩:=aq J;clear J af ad)|fail);all_goals have bk:=aa ((bi.out.trans (dx bf.out ab.out.sz)).trans HP.out.2.1);go_wp2_with(first|(go_at_call 177;have b0:=HP;refine(mG [46] (by simp) HT.out HP.out.1).mono ?_;rintro e w8⟨rfl,a3,a0⟩;have bp:=aa a3;have bg:=aa a0;clear a3 a0)|(go_at_call 157;refine(HO.out _ _ bp.out).mono ?_;rintro e w9⟨rfl,a1⟩;have bn:=aa a1;clear a1));go_end0;obtain⟨a9,bz,l9,b9,h1,h2,h3⟩:=bn.out;exact⟨rfl,a9,bz,l9,b9,h1,h2,(bk.out.trans (dx bg.out HP.out.1.sz)).trans h3⟩
end Go.Proofs.YtlbcnmcfljaijaaGreat
