import Derived.Test.YtdiiiijkhpdcbaaGreatDoorRX05
import Derived.DeepKeys4
import Derived.Deep.DrawnRows
import Derived.WideKeyEntry
import Derived.Test.YtdiiiijkhpdcbaaGreatDoorRX01
namespace Go.Proofs.YtdiiiijkhpdcbaaGreatDoor
open Go.RowKit
set_option linter.unusedSimpArgs false
set_option linter.unusedVariables false
set_option maxHeartbeats 1000000
set_option maxRecDepth 100000
def sS(n:Int):Bool:=decide (0<=n)&&decide (n<=2)
def gY(m:aF):Bool:=ct m.cD&&(ct m.to&&(ct m.label&&(!(m.cD.toList==m.to.toList)&&sS m.sort)))
def eM(f t:ByteArray)(m:aF):Bool:=m.cD.toList==f.toList&&m.to.toList==t.toList
def fI(f t:ByteArray)(l:List aF):Nat:=l.countP (eM f t)
def dL(l:List aF):Bool:=decide (l.length<=36)&&l.all fun m=>gY m&&decide (fI m.cD m.to l<=3)
theorem tz{a b:ByteArray}(h:a.toList=b.toList):a=b:=by rw[Go.ByteArray.toList_eq,Go.ByteArray.toList_eq]at h;apply ByteArray.ext;exact Array.ext' h
theorem lY{f t:ByteArray}{m:aF}:eM f t m=true↔m.cD=f/\m.to=t:=by simp only[eM,Bool.and_eq_true,beq_iff_eq];exact⟨fun h=>⟨tz h.1,tz h.2⟩,fun h=>by rw[h.1,h.2];exact⟨rfl,rfl⟩⟩
theorem nj(m:aF):eM m.cD m.to m=true:=lY.2 ⟨rfl,rfl⟩
theorem nY(f t:ByteArray)(a b:List aF):fI f t (a++b)=fI f t a+fI f t b:=List.countP_append
theorem rm(f t:ByteArray)(m:aF):fI f t [m]=if eM f t m then 1 else 0:=by simp[fI,List.countP_cons]
theorem zR(f t:ByteArray)(l:List aF):fI f t l<=l.length:=List.countP_le_length
theorem Bn(f t:ByteArray)(l:List aF)(k:Nat):fI f t (l.take k)<=fI f t l:=by have:=nY f t (l.take k) (l.drop k);rw[List.take_append_drop]at this;omega
theorem tB(f t:ByteArray){l:List aF}{k:Nat}(h:k<l.length):fI f t (l.take (k+1))=fI f t (l.take k)+if eM f t l[k]then 1 else 0:=by rw[List.take_succ_eq_append_getElem h,nY,rm]
theorem xx{l:List aF}(h:36<l.length):dL l=false:=by rw[dL,decide_eq_false (by omega)];rfl
theorem Av{l:List aF}{m:aF}(j:m∈l)(h:gY m=false):dL l=false:=by
 have:(l.all fun m=>gY m&&decide (fI m.cD m.to l<=3))=false:=by rw[List.all_eq_false];exact⟨m,j,by simp[h]⟩
 rw[dL,this,Bool.and_false]
theorem xw{l:List aF}{m:aF}(j:m∈l)(h:3<fI m.cD m.to l):dL l=false:=by
 have:(l.all fun m=>gY m&&decide (fI m.cD m.to l<=3))=false:=by rw[List.all_eq_false];exact⟨m,j,by simp;intro _;omega⟩
 rw[dL,this,Bool.and_false]
theorem Aw{l:List aF}(C:l.length<=36)(I:∀m∈l,gY m=true)(J:∀m∈l,fI m.cD m.to l<=3):dL l=true:=by rw[dL,decide_eq_true C,Bool.true_and,List.all_eq_true];intro m j;rw[I m j,decide_eq_true (J m j)];rfl
theorem Au{l:List aF}(h:dL l=true):l.length<=36:=by simp only[dL,Bool.and_eq_true,decide_eq_true_eq]at h;exact h.1
theorem F5{q:Bool}{n:Int}(j:sS n=q)(w:World):Calls Tryz.prog 211 #[.int .i64 n] w fun e w'=>e=.returned (.bool q)/\w'=w:=by have l:=aa j;clear j;by_cases h:0<=n;all_goals go_in;go_wp2;go_ret;exact⟨aD (by rw[<-l.out];simp[sS, *];try omega),rfl⟩
theorem J4(n lo hi:Int)(w:World):Calls Tryz.prog 105 #[.int .i64 n,.int .i64 lo,.int .i64 hi] w fun e w'=>e=.returned (.bool (decide (lo<=n)&&decide (n<=hi)))/\w'=w:=by by_cases h:lo<=n;all_goals go_in;go_wp2;go_ret;refine⟨aD ?_,rfl⟩;simp[*];try omega
theorem GY{q:Bool}{n:Int}(j:sS n=q)(w:World):Calls Tryz.prog 178 #[.int .i64 n] w fun e w'=>e=.returned (.bool q)/\w'=w:=by subst j;go_in;go_wp2_with(go_at_call 105;refine(J4 _ _ _ _).mono ?_;rintro e w'⟨rfl,rfl⟩);go_ret;exact⟨aD rfl,rfl⟩
theorem jN{q:Bool}{s:ByteArray}(h:ct s=q)(j:s.size<=maxLen)(w:World):Calls Tryz.prog 207 #[.string s] w fun e w'=>e=.returned (.bool q)/\w'=w:=by subst h;exact lX s w j
theorem vu{q:Bool}{s:ByteArray}(h:ct s=q)(j:s.size<=maxLen)(w:World):Calls Tryz.prog 177 #[.string s] w fun e w'=>e=.returned (.bool q)/\w'=w:=by subst h;exact uz s w j
theorem EP{q:Bool}{m:aF}(R:gY m=q)(l:m.ok)(w:World):Calls Tryz.prog 154 #[m.val] w fun e w'=>e=.returned (.bool q)/\ZW w w':=by
 have j:=aa l;obtain⟨a,C⟩:∃a,ct m.cD=a:=⟨_,rfl⟩;obtain⟨b,I⟩:∃b,ct m.to=b:=⟨_,rfl⟩;obtain⟨c,J⟩:∃c,ct m.label=c:=⟨_,rfl⟩;obtain⟨d,hd⟩:∃d,(m.cD.toList==m.to.toList)=d:=⟨_,rfl⟩;obtain⟨s,P⟩:∃s,sS m.sort=s:=⟨_,rfl⟩;have HQ:Hid (q=(a&&(b&&(c&&(!d&&s))))):=aa (by rw[<-R,gY,C,I,J,hd,P]);have T:=aa C;have U:=aa I;have HC:=aa J;have HS:=aa P;clear R l C I J P;unfold aF.val;cases a;case' true=>cases b
 case' true.true=>cases c
 case' true.true.true=>cases d
 all_goals go_in;go_wp2_with(first|(go_at_call_of 177 m.cD;refine(vu T.out j.out.1 _).mono ?_;rintro e w'⟨rfl,rfl⟩)|(go_at_call_of 177 m.to;refine(vu U.out j.out.2.1 _).mono ?_;rintro e w'⟨rfl,rfl⟩)|(go_at_call_of 177 m.label;refine(vu HC.out j.out.2.2 _).mono ?_;rintro e w'⟨rfl,rfl⟩)|(go_at_call 178;refine(GY HS.out _).mono ?_;rintro e w'⟨rfl,rfl⟩));go_ret;exact⟨aD (by rw[HQ.out];simp[*]),ag _ _⟩
theorem wR{q:Bool}{m:aF}(R:gY m=q)(l:m.ok)(w:World):Calls Tryz.prog 164 #[m.val] w fun e w'=>e=.returned (.bool q)/\ZW w w':=by
 have j:=aa l;obtain⟨a,C⟩:∃a,ct m.cD=a:=⟨_,rfl⟩;obtain⟨b,I⟩:∃b,ct m.to=b:=⟨_,rfl⟩;obtain⟨c,J⟩:∃c,ct m.label=c:=⟨_,rfl⟩;obtain⟨d,hd⟩:∃d,(m.cD.toList==m.to.toList)=d:=⟨_,rfl⟩;obtain⟨s,P⟩:∃s,sS m.sort=s:=⟨_,rfl⟩;have HQ:Hid (q=(a&&(b&&(c&&(!d&&s))))):=aa (by rw[<-R,gY,C,I,J,hd,P]);have T:=aa C;have U:=aa I;have HC:=aa J;have HS:=aa P;clear R l C I J P;unfold aF.val;cases a;case' true=>cases b
 case' true.true=>cases c
 case' true.true.true=>cases d
 all_goals go_in;go_wp2_with(first|(go_at_call_of 207 m.cD;refine(jN T.out j.out.1 _).mono ?_;rintro e w'⟨rfl,rfl⟩)|(go_at_call_of 207 m.to;refine(jN U.out j.out.2.1 _).mono ?_;rintro e w'⟨rfl,rfl⟩)|(go_at_call_of 207 m.label;refine(jN HC.out j.out.2.2 _).mono ?_;rintro e w'⟨rfl,rfl⟩)|(go_at_call 211;refine(F5 HS.out _).mono ?_;rintro e w'⟨rfl,rfl⟩));go_ret;exact⟨aD (by rw[HQ.out];simp[*]),ag _ _⟩
theorem GR(l:List aF)(f t:ByteArray)(v:Value)(w:World)(ah:l.length<=4096)(hv:bt w w.heap.size v l):Calls Tryz.prog 155 #[v,.string f,.string t] w fun e w'=>e=.returned (.int .i64 (fI f t l:Nat))/\ZW w w':=by
 obtain⟨ao,cap,rfl,hc,hm,hr⟩:=hv;have HR:=aa hr;clear hr;have ab:=aa (show fI f t l=fI f t (l.take l.length)by rw[List.take_length]);go_in;go_wp2;go_loopw[7,8](fun n i wr=>∃k:Nat,k<=l.length/\i=.int .i64 k/\n=.int .i64 (fI f t (l.take k):Nat)/\ZW w wr)(fun _ i _=>l.length-(intOf i).toNat);case atStart=>exact⟨0,Nat.zero_le _,rfl,rfl,Below.refl _ _⟩
 case round=>
  obtain⟨k,hk,rfl,rfl,I⟩:=hrel;have j:=aa I;have ad:fI f t (l.take k)<=4096:=Nat.le_trans (zR f t _) (by rw[List.length_take];omega);clear I;by_cases R:k<l.length;·
   obtain⟨b,o,rfl,ac,J⟩:=HR.out (by intro h;simp[h]at R);have C:=(J.get k R).carry ac j.out;have P:=aa (tB f t R);obtain⟨x1,U⟩:∃x1,x1=l[k]:=⟨_,rfl⟩;rw[<-U]at C P;obtain⟨c0,c1,c2,c3⟩:=C;obtain⟨p,hp⟩:∃p,(x1.cD.toList==f.toList)=p:=⟨_,rfl⟩;obtain⟨q,hq⟩:∃q,(x1.to.toList==t.toList)=q:=⟨_,rfl⟩;have HI:Hid (eM f t x1=(p&&q)):=aa (by rw[eM,hp,hq]);obtain⟨c,T⟩:∃c,fI f t (l.take k)=c:=⟨_,rfl⟩;rw[T]at ad P|-;clear U J T;cases p;all_goals cases q
   all_goals
    go_wp2;go_roundw;case rel=>exact⟨k+1,by omega,by go_num,by rw[P.out,HI.out];first|rfl|go_num,by first|exact j.out|exact j.out.drew⟩
    case measure=>simp[intOf];omega
  ·have af:k=l.length:=by omega
   subst af;go_wp2;go_ret;exact⟨bc (by rw[ab.out]),j.out⟩
theorem zb{c:Nat}{l:List aF}{f t:ByteArray}(C:fI f t l=c)(v:Value)(w:World)(j:l.length<=4096)(I:bt w w.heap.size v l):Calls Tryz.prog 155 #[v,.string f,.string t] w fun e w'=>e=.returned (.int .i64 (c:Nat))/\ZW w w':=by subst C;exact GR l f t v w j I
theorem sP{q:Bool}{l:List aF}(hq:dL l=q)(v:Value)(w:World)(az:∀m∈l,m.ok)(hv:bt w w.heap.size v l):Calls Tryz.prog 101 #[v] w fun e w'=>e=.returned (.bool q)/\ZW w w':=by
 have HQ:=aa hq;have aL:=aa az;have HV:Hid (∀W,ZW w W->bt W W.heap.size v l):=aa (fun W hb=>(hv.carry hb).up hb.size);have a3:=hv.iF;obtain⟨ao,cap,rfl,hc,hm,hr⟩:=hv;have HR:=aa hr;clear hr hq az;by_cases aR:36<l.length;·go_in;go_wp2;go_ret;exact⟨aD (by rw[<-HQ.out];exact xx aR),Below.refl _ _⟩
 ·go_in;go_wp2;go_loopw[3](fun i wr=>∃k:Nat,k<=l.length/\i=.int .i64 k/\(∀j(h:j<l.length),j<k->gY l[j]=true/\fI l[j].cD l[j].to l<=3)/\ZW w wr)(fun i _=>l.length-(intOf i).toNat);case atStart=>exact⟨0,Nat.zero_le _,rfl,fun j _ h=>absurd h (by omega),Below.refl _ _⟩
  case round=>
   obtain⟨k,hk,rfl,ad,af⟩:=hrel;have I:=aa af;have R:=aa ad;clear af ad;by_cases aq:k<l.length;·
    obtain⟨b,o,rfl,a0,ah⟩:=HR.out (by intro h;simp[h]at aq);have T:=(ah.get k aq).carry a0 I.out;have J:l[k]∈l:=List.getElem_mem aq;obtain⟨x1,ax⟩:∃x1,x1=l[k]:=⟨_,rfl⟩;have aN:=aa ax;rw[<-ax]at T J;have ab:=aa J;have ac:=aa (aL.out x1 J);obtain⟨c0,c1,c2,c3⟩:=T;obtain⟨p,hp⟩:∃p,gY x1=p:=⟨_,rfl⟩;have HP:=aa hp;obtain⟨c,an⟩:∃c,fI x1.cD x1.to l=c:=⟨_,rfl⟩;have al:=aa an;have a1:c<=36:=by rw[<-an];exact Nat.le_trans (zR _ _ _) (by omega)
    clear ax ah an hp J;cases p;·
     go_wp2;refine bg (by kernel_rfl) (by kernel_rfl) (fun W P=>?_);have av:=bo W;have f0:=au (w:=W) (by rw[P];exact c0);have f1:=au (w:=W) (by rw[P];exact c1);have f2:=au (w:=W) (by rw[P];exact c2);have f3:=au (w:=W) (by rw[P];exact c3);have C:Hid (ZW w W):=aa (by rw[P];exact I.out);clear P;repeat(go_big_quiet_step((go_at_call 154;exact bj (EP (m:=x1) HP.out ac.out _))))
     refine wpQuiet_nil ?_;intro w1 U;have aM:=aa U;clear U av f0 f1 f2 f3;go_wp2;go_ret;exact⟨aD (by rw[<-HQ.out];exact Av ab.out HP.out),C.out.trans (aM.out.mono C.out.size)⟩
    ·by_cases h3:3<c;all_goals
      go_wp2;refine bg (by kernel_rfl) (by kernel_rfl) (fun W P=>?_);have av:=bo W;have f0:=au (w:=W) (by rw[P];exact c0);have f1:=au (w:=W) (by rw[P];exact c1);have f2:=au (w:=W) (by rw[P];exact c2);have f3:=au (w:=W) (by rw[P];exact c3);have C:Hid (ZW w W):=aa (by rw[P];exact I.out);clear P;repeat(go_big_quiet_step(first|(go_at_call 154;exact bj (EP (m:=x1) HP.out ac.out _))|(go_at_call 155;exact bj (zb al.out _ _ (by omega) ((HV.out _ (C.out.trans ((Grown.bel _).mono C.out.size))))))))
      refine wpQuiet_nil ?_;intro w1 U;have ay:Hid (ZW w w1):=aa (C.out.trans (U.mono C.out.size));clear U av f0 f1 f2 f3;go_wp2
     ·go_ret;exact⟨aD (by rw[<-HQ.out];exact xw ab.out (by rw[al.out];exact h3)),ay.out⟩
     ·go_roundw;case rel=>
       refine⟨k+1,by omega,by go_num,fun j hj a2=>?_,ay.out⟩;by_cases e:j=k;·subst e;rw[<-aN.out,al.out];exact⟨HP.out,by omega⟩
       ·exact R.out j hj (by omega)
      case measure=>simp[intOf];omega
   ·go_wp2;go_ret;refine⟨aD ?_,I.out⟩;rw[<-HQ.out];refine Aw (by omega) (fun m hm=>?_) (fun m hm=>?_);·obtain⟨j,hj,rfl⟩:=List.getElem_of_mem hm;exact(R.out j hj (by omega)).1
    ·obtain⟨j,hj,rfl⟩:=List.getElem_of_mem hm;exact(R.out j hj (by omega)).2
section
open Go.RowKit Go.Maps
attribute [local go_sem ↓] Go.wp_at_zero Go.wp_at_succ
def jJ(f t:ByteArray):Value:=.agg #[.string f,.string t]
theorem Tryz.wX:laidOutB Tryz.prog=true:=by kernel_rfl
theorem Tryz.zU:(219:TypeId)<Tryz.prog.types.size:=of_decide_eq_true (by kernel_rfl)
theorem Tryz.tG:Tryz.prog.cellsOf 219=2:=by kernel_rfl
theorem Tryz.Cu:Tryz.prog.cellsOf 9=1:=by kernel_rfl
theorem Tryz.Dn:Tryz.prog.keyType 219=true:=by kernel_rfl
theorem fJ:Keyed Tryz.prog 219:=Keyed.of_law (deep_law_laid Tryz.wX (m:=4) (by omega) Tryz.zU (by kernel_rfl) (by kernel_rfl))
theorem Tryz.CE:2<Tryz.prog.types.size:=of_decide_eq_true (by kernel_rfl)
theorem Tryz.zC:∃d,Tryz.prog.types.size+1=d+3:=by have h:=Tryz.CE;generalize Tryz.prog.types.size=n at h;exact⟨n-2,by omega⟩
theorem wE(f t:ByteArray)(l:f.size<=maxLen)(C:t.size<=maxLen):∃I,keyOf Tryz.prog 219 (jJ f t)=some I:=by
 obtain⟨d,hd⟩:=Tryz.zC;have j:(jJ f t).formed Tryz.prog 219=true:=by simp[Value.formed,jJ,Tryz.underlying219,Tryz.tG]
 unfold keyOf;rw[Tryz.underlying219];simp only[];rw[if_pos (by rw[Tryz.Dn,j];rfl),hd];simp+decide[Program.keyLits,jJ,Value.cells,Tryz.underlying219,Tryz.underlying9,Tryz.tG,Tryz.Cu,l,C]
theorem tH{f j t l:ByteArray}(h:jJ f t=jJ j l):f=j/\t=l:=by simp[jJ]at h;exact h
def lg(w:World)(l:List aF)(b n:Nat):Prop:=∃D:DataW Unit,w.ownsMap Tryz.prog 219 (plainElem Tryz.prog 3) b n D/\∀f t j,keyOf Tryz.prog 219 (jJ f t)=some j->D.atKey j (.lit (.int .i64 0))=.lit (.int .i64 (fI f t l:Nat))
theorem FQ(w:World):lg (w.alloc (.map #[] 0)) [] w.heap.size 0:=⟨.map [],World.ownsMap_made w _ _ _,fun f t l j=>by rfl⟩
theorem lg.aA{w w':World}{I:List aF}{b n:Nat}{l:List Nat}(h:lg w I b n)(R:aH w w' l)(T:b∉l):lg w' I b n:=by obtain⟨D,J,P⟩:=h;refine⟨D,?_,P⟩;obtain⟨j,clock,C,U⟩:=J;exact⟨j,clock,(R.block b (Array.getElem?_eq_some_iff.1 C).1 T).trans C,U⟩
theorem FR{w w':World}{l:List aF}{m:aF}{b n:Nat}{D:DataW Unit}{J:Lit}(R:w.ownsMap Tryz.prog 219 (plainElem Tryz.prog 3) b n D)(hD:∀f t J,keyOf Tryz.prog 219 (jJ f t)=some J->D.atKey J (.lit (.int .i64 0))=.lit (.int .i64 (fI f t l:Nat)))(j:keyOf Tryz.prog 219 (jJ m.cD m.to)=some J)(I:w'.ownsMap Tryz.prog 219 (plainElem Tryz.prog 3) b (n+1) (D.put J (.lit (.int .i64 ((fI m.cD m.to l:Nat)+1))))):lg w' (l++[m]) b (n+1):=by
 refine⟨_,I,fun f t k' C=>?_⟩;have P:=R.isMap;have U:=fJ.key j;by_cases T:k'=J;·subst T;obtain⟨rfl,rfl⟩:=tH (fJ.inj C j);rw[atKey_put_same P U,nY,rm,nj];simp
 ·rw[atKey_put_other T,hD f t k' C,nY,rm];have:eM f t m=false:=by
   cases h:eM f t m;·rfl
   ·obtain⟨rfl,rfl⟩:=lY.1 h;rw[C]at j;exact absurd (Option.some.inj j) T
  rw[this];simp
theorem uG(w:World):(zeroValue 3).run Tryz.prog w=.ok (.int .i64 0) w:=Tryz.zeroValue3 w
theorem Bo{w:World}{l:List aF}{b n:Nat}{f t:ByteArray}(h:lg w l b n)(R:f.size<=maxLen)(T:t.size<=maxLen):(Instr.lookup 217 (.map (some b)) (jJ f t) false).run Tryz.prog w=.ok (.int .i64 (fI f t l:Nat)) w:=by obtain⟨D,J,P⟩:=h;obtain⟨U,C⟩:=wE f t R T;obtain⟨c,I,j,-⟩:=J.lookup_int fJ Tryz.underlying217 Tryz.underlying3 (uG w) C;rw[P f t U C]at j;injection j with j;injection j with _ j;rw[j];exact I
theorem kf{w:World}{l:List aF}{b n:Nat}{f t:ByteArray}(h:lg w l b n)(I:f.size<=maxLen)(J:t.size<=maxLen){c:Nat}(C:fI f t l=c):(Instr.lookup 217 (.map (some b)) (.agg #[.string f,.string t]) false).run Tryz.prog w=.ok (.int .i64 (c:Nat)) w:=by subst C;have j:=Bo h I J;unfold jJ at j;exact j
theorem Tryz.DI:(Tryz.prog.info? 219).map (fun i=>(i.zero,i.size,i.bytes))=some (some (.agg #[.string .empty,.string .empty]),2,32):=by kernel_rfl
theorem qK(m:aF)(w:World):Calls Tryz.prog 165 #[m.val] w fun e w'=>e=.returned (.agg #[.string m.cD,.string m.to])/\ZW w w':=by
 have hi:(Tryz.prog.info? 219).map (·.size)=some 2:=by obtain⟨C,hi,_,j,_⟩:=info_parts Tryz.DI;rw[hi];simp[j]
 have l:=aa hi;clear hi;unfold aF.val;go_in;go_wp2;refine bodyPost_ret_by (results_cell_row rfl _ _ (w.heap.size+1) 219 #[.string m.cD,.string m.to] (0,0) _ rfl ?_ Tryz.underlying219 rfl l.out) rfl ⟨rfl,(ag _ _).trans ((ag _ _).mono (by simp))⟩;rw[bZ _ _ _ (by simp)]
theorem aH.Ik{w w':World}{l:List Nat}(h:aH w w' []):aH w w' l:=⟨h.os,h.tape,h.output,h.size,fun b j _=>h.block b j (by simp)⟩
theorem aH.J3{w w':World}{b:Nat}(h:aH w w' ([b]++[b])):aH w w' [b]:=⟨h.os,h.tape,h.output,h.size,fun k l j=>h.block k l (by simp at j;simp[j])⟩
theorem aH.JH{w w':World}{l:List Nat}(h:aH w w' l){b o:Nat}{x:Value}(j:w.cell? ⟨b,o,none⟩=some x)(C:b∉l):w'.cell? ⟨b,o,none⟩=some x:=(World.cell?_of_block (a:=⟨b,o,none⟩) (h.block b (World.block_lt_of_cell? w _ j) C)).trans j
end
section
open Go.RowKit Go.Maps Go.ChangeMaps Go.MapKept
open Go.WideElems (Fit entry_then_store)
theorem Dp:Go.WideMaps.KeyLaw Tryz.prog 219:=deep_law_laid Tryz.wX (m:=4) (by omega) Tryz.zU (by kernel_rfl) (by kernel_rfl)
theorem Dc{w:World}{l:List aF}{b n c:Nat}{m:aF}(h:lg w l b n)(P:m.ok)(hn:n<1000)(hc:fI m.cD m.to l=c)(a9:c<=3):∃v0 st W4 W5,(Instr.mapEntry 217 (.map (some b)) (.agg #[.string m.cD,.string m.to])).run Tryz.prog w=.ok (.tuple #[v0,st]) W4/\(Instr.lookup 217 (.map (some b)) (.agg #[.string m.cD,.string m.to]) false).run Tryz.prog W4=.ok (.int .i64 (c:Nat)) W4/\(Instr.entryStore 217 (.map (some b)) st (.int .i64 (IntKind.i64.wrap ((c:Int)+1)))).run Tryz.prog W4=.ok () W5/\lg W5 (l++[m]) b (n+1)/\aH w W5 [b]:=by
 have a5:IntKind.i64.wrap ((c:Int)+1)=(c:Int)+1:=by rw[IntKind.wrap_i64];omega
 rw[a5];have a1:=kf h P.1 P.2.1 hc;obtain⟨kl,C⟩:=wE m.cD m.to P.1 P.2.1;unfold jJ at C;obtain⟨D,ah,hD⟩:=h;have J:=ah;obtain⟨es,clock,hb,F,hs,rfl⟩:=ah;obtain⟨v0,st,an,U,R,bb,ax⟩:=entry_then_store Dp Tryz.underlying217 uG hb F C;have af:(setBlock w b (.map an U)).heap[b]?=some (.map an U):=heap_setBlock_same hb _;obtain⟨az,ac,a3,a4⟩:=ax _ (.int .i64 ((c:Int)+1)) af;refine⟨v0,_,_,_,R,?_,a3,?_,?_⟩;·
  obtain⟨a8,ay,bf,a7⟩:=ax _ (.int .i64 0) af;have ab:Keyed Tryz.prog 219:=fJ;rcases ab.find w C es.toList F.keys with⟨h1,h2⟩|⟨j,e0,h1,h2,h3⟩;·
   have r1:(Instr.mapEntry 217 (.map (some b)) (.agg #[.string m.cD,.string m.to])).run Tryz.prog w=.ok (.tuple #[.int .i64 0,goInt clock]) (setBlock w b (.map (es.push ⟨.agg #[.string m.cD,.string m.to],.int .i64 0,clock⟩) (clock+1))):=by simp[Instr.mapEntry,run_underlying Tryz.underlying217,MapKept.run_getObj_map hb,ab.check w false C,h1,MapKept.run_setObj_map _ hb,Result.andThen,setBlock]
   have r2:(Instr.mapUpdate 217 (.map (some b)) (.agg #[.string m.cD,.string m.to]) (.int .i64 0)).run Tryz.prog w=.ok () (setBlock w b (.map (es.push ⟨.agg #[.string m.cD,.string m.to],.int .i64 0,clock⟩) (clock+1))):=by simp[Instr.mapUpdate,run_underlying Tryz.underlying217,MapKept.run_getObj_map hb,ab.check w false C,h1,MapKept.run_setObj_map _ hb,Result.andThen,setBlock]
   have r3:(Instr.lookup 217 (.map (some b)) (.agg #[.string m.cD,.string m.to]) false).run Tryz.prog w=.ok (.int .i64 0) w:=by simp[Instr.lookup,run_underlying Tryz.underlying217,MapKept.run_getObj_map hb,ab.check w es.isEmpty C,h1,Result.andThen]
   have a6:=Result.ok.inj (a1.symm.trans r3);have r3:=(Value.int.inj a6.1).2;have R:=(Result.ok.inj (r1.symm.trans R)).2;obtain⟨w',I,T,aR⟩:=J.update fJ Tryz.underlying217 (by unfold maxLen;omega) C (plainElem_int (H:=Unit) Tryz.underlying3 (a:=0) (by decide));have I:=(Result.ok.inj (r2.symm.trans I)).2;rw[R]at I;rw[I];refine kf (l:=l) (n:=n+1) ⟨_,T,fun f t k' aq=>?_⟩ P.1 P.2.1 hc;by_cases he:k'=kl;·subst he;obtain⟨rfl,rfl⟩:=tH (fJ.inj aq (by unfold jJ;exact C));rw[atKey_put_same J.isMap (fJ.key C),hc,r3]
   ·rw[atKey_put_other he];exact hD f t k' aq
  ·have hj:es[j]?=some e0:=by simpa using h2
   have al:es.modify j (fun e=>{e with key:=.agg #[.string m.cD,.string m.to]})=es:=by
    apply Array.ext';rw[Array.toList_modify];apply List.ext_getElem?;intro i;rw[List.getElem?_modify];by_cases hi:j=i;·subst hi;rw[h2];simp[<-h3]
    ·simp[hi]
   have r1:(Instr.mapEntry 217 (.map (some b)) (.agg #[.string m.cD,.string m.to])).run Tryz.prog w=.ok (.tuple #[e0.val,goInt e0.born]) (setBlock w b (.map es clock)):=by simp[Instr.mapEntry,run_underlying Tryz.underlying217,MapKept.run_getObj_map hb,ab.check w false C,h1,hj,h3,ab.stays w C,al,MapKept.run_setObj_map _ hb,Result.andThen,setBlock]
   have R:=(Result.ok.inj (r1.symm.trans R)).2;rw[<-R];exact kf (l:=l) (n:=n) ⟨_,⟨es,clock,heap_setBlock_same hb _,F,hs,rfl⟩,hD⟩ P.1 P.2.1 hc
 ·obtain⟨w',I,T,aR⟩:=J.update fJ Tryz.underlying217 (by unfold maxLen;omega) C (plainElem_int (H:=Unit) Tryz.underlying3 (a:=(c:Int)+1) (by simp[Lit.wf,IntKind.min,IntKind.max,IntKind.signed,IntKind.bits];omega));have I:=(Result.ok.inj (a4.symm.trans I)).2;have aN:w'.heap[b]?=some (.map az ac):=by rw[<-I];exact heap_setBlock_same hb _
  have:lg w' (l++[m]) b (n+1):=FR J hD C (by rw[hc];exact T);obtain⟨D2,⟨aL,ad,ao,F3,a2,rfl⟩,aM⟩:=this;rw[aN]at ao;refine⟨_,⟨aL,ad,?_,F3,a2,rfl⟩,aM⟩;rw[<-ao];exact heap_setBlock_same af _
 ·refine⟨rfl,rfl,rfl,by simp[setBlock],fun k hk a0=>?_⟩;have av:k≠b:=by simpa using a0
  rw[heap_setBlock_other af _ av,heap_setBlock_other hb _ av]
end
section
open Go.RowKit Go.Maps
attribute [local go_sem ↓] Go.wp_at_zero Go.wp_at_succ
theorem mE{q:Bool}{l:List aF}(hq:dL l=q)(v:Value)(w:World)(a6:∀m∈l,m.ok)(hv:bt w w.heap.size v l):Calls Tryz.prog 112 #[v] w fun e w'=>e=.returned (.bool q)/\ZW w w':=by
 have HQ:=aa hq;have bf:=aa a6;have bB:=hv.iF;obtain⟨ao,cap,rfl,hc,hm,hr⟩:=hv;have HR:=aa hr;clear hr hq a6;by_cases bk:36<l.length;·go_in;go_wp2;go_ret;exact⟨aD (by rw[<-HQ.out];exact xx bk),Below.refl _ _⟩
 ·have br:∀W:World,(Instr.makeMap 217 none).run Tryz.prog W=.ok (.map (some W.heap.size)) (W.alloc (.map #[] 0)):=fun W=>rfl;go_in;go_wp2;obtain⟨W1,ah⟩:∃W1,W1=w.alloc (.map #[] 0):=⟨_,rfl⟩;have bs:W1.heap.size=w.heap.size+1:=by rw[ah];simp
  have a9:Hid (lg W1 [] w.heap.size 0):=aa (by rw[ah];exact FQ w);have a8:Hid (ZW w W1):=aa (by rw[ah];exact ag _ _);rw[<-ah];clear ah br;go_loopw[12](fun i wr=>∃k:Nat,k<=l.length/\i=.int .i64 k/\lg wr (l.take k) w.heap.size k/\(∀j(h:j<l.length),j<k->gY l[j]=true)/\(∀f t,fI f t (l.take k)<=3)/\aH W1 wr [w.heap.size])(fun i _=>l.length-(intOf i).toNat);case atStart=>exact⟨0,Nat.zero_le _,rfl,a9.out,fun j _ h=>absurd h (by omega),fun f t=>by simp[fI],(aH.refl W1).Ik⟩
  case round=>
   obtain⟨k,hk,rfl,aM,aL,ac,R⟩:=hrel;have U:=aa aM;have ax:=aa aL;have H3:=aa ac;have a7:=aa R;have bM:w.heap.size+1<=wr.heap.size:=by have:=R.size;omega
   have HW:Hid (ZW w wr):=aa (a8.out.trans (R.below (by omega) (by simp)));clear aM aL ac R;by_cases aq:k<l.length;·
    obtain⟨b,o,rfl,bl,aN⟩:=HR.out (by intro h;simp[h]at aq);have av:=(aN.get k aq).carry bl HW.out;have ab:l[k]∈l:=List.getElem_mem aq;have aR:Hid (∀f t,fI f t (l.take (k+1))=fI f t (l.take k)+if eM f t l[k]then 1 else 0):=aa (fun f t=>tB f t aq);have a3:Hid (l.take (k+1)=l.take k++[l[k]]):=aa (List.take_succ_eq_append_getElem aq);obtain⟨P,a1⟩:∃P,P=l[k]:=⟨_,rfl⟩;have bi:=aa a1;rw[<-a1]at av ab aR a3;have az:=aa ab;have C:=aa (bf.out P ab);obtain⟨c0,c1,c2,c3⟩:=av;obtain⟨p,hp⟩:∃p,gY P=p:=⟨_,rfl⟩;have HP:=aa hp;obtain⟨c,a0⟩:∃c,fI P.cD P.to (l.take k)=c:=⟨_,rfl⟩;have ad:=aa a0;have bm:c<=3:=by rw[<-a0];exact H3.out _ _
    clear a1 aN a0 hp ab;cases p;·go_wp2_with(go_at_call 164;refine(wR (m:=P) HP.out C.out _).mono ?_;rintro e w1⟨rfl,I⟩;have J:Hid (ZW wr w1):=aa ((ag _ _).trans (I.mono (by simp)));clear I);go_ret;exact⟨aD (by rw[<-HQ.out];exact Av az.out HP.out),HW.out.trans (J.out.mono (by omega))⟩
    ·by_cases h3:c=3;all_goals go_wp2_with(first|(go_at_call 164;refine(wR (m:=P) HP.out C.out _).mono ?_;rintro e w1⟨rfl,I⟩;have ay:Hid (ZW wr w1):=aa ((ag _ _).trans (I.mono (by simp)));have d0:=(I.cell (p:=⟨wr.heap.size,0,none⟩) (by simp));have d1:=(I.cell (p:=⟨wr.heap.size,1,none⟩) (by simp));have d2:=(I.cell (p:=⟨wr.heap.size,2,none⟩) (by simp));have d3:=(I.cell (p:=⟨wr.heap.size,3,none⟩) (by simp));simp at d0 d1 d2 d3;have an:wr.heap.size<w1.heap.size:=(by have:=I.size;simp at this;omega);clear I)|(go_at_call 165;refine(qK P w1).mono ?_;rintro e w2⟨rfl,T⟩;have J:Hid (ZW wr w2):=aa (ay.out.trans (T.mono ay.out.size));have e0:=(T.cell (p:=⟨wr.heap.size,0,none⟩) an).trans d0;have e1:=(T.cell (p:=⟨wr.heap.size,1,none⟩) an).trans d1;have e2:=(T.cell (p:=⟨wr.heap.size,2,none⟩) an).trans d2;have e3:=(T.cell (p:=⟨wr.heap.size,3,none⟩) an).trans d3;have bp:=kf (U.out.aA (aj J.out) (by simp)) C.out.1 C.out.2.1 ad.out;have bx:wr.heap.size<w2.heap.size:=Nat.lt_of_lt_of_le an T.size;clear T)|(go_at_call 165;refine(qK P w2).mono ?_;rintro e w3⟨rfl,al⟩;have af:Hid (ZW wr w3):=aa (J.out.trans (al.mono J.out.size));have a5:=kf (U.out.aA (aj af.out) (by simp)) C.out.1 C.out.2.1 ad.out;clear al))
     ·go_ret;exact⟨aD (by rw[<-HQ.out];exact xw az.out (by have h1:=aR.out P.cD P.to;have h2:=Bn P.cD P.to l (k+1);rw[nj,ad.out]at h1;simp at h1;omega)),HW.out.trans (J.out.mono (by omega))⟩
     ·clear d0 d1 d2 d3 bp;go_region_with(go_at_call 165;refine(qK P _).mono ?_;rintro e w3⟨rfl,al⟩;have af:Hid (ZW wr w3):=aa (J.out.drew.trans (al.mono J.out.size));have a5:=kf (U.out.aA (aj af.out) (by simp)) C.out.1 C.out.2.1 ad.out;obtain⟨v0,st,W4,W5,bL,bz,bN,a4,R⟩:=Dc (U.out.aA (aj af.out) (by simp)) C.out (by omega) ad.out bm;have bb:=aa a4;have a2:=aa R;clear al a4 R);all_goals
       go_wp2;go_roundw;case rel=>
        refine⟨k+1,by omega,by go_num,by rw[a3.out];exact bb.out,fun j hj bv=>?_,fun f t=>?_,?_⟩;·
         by_cases e:j=k;·subst e;rw[<-bi.out];exact HP.out
         ·exact ax.out j hj (by omega)
        ·have h1:=aR.out f t;have h2:=H3.out f t;by_cases e:eM f t P=true;·obtain⟨rfl,rfl⟩:=lY.1 e;rw[nj,ad.out]at h1;simp at h1;omega
         ·rw[if_neg e]at h1;omega
        ·exact((a7.out.then af.out).trans a2.out).J3
       case measure=>simp[intOf];omega
   ·have bn:k=l.length:=by omega
    subst bn;go_wp2;go_ret;refine⟨aD ?_,HW.out⟩;rw[<-HQ.out];have h3:=H3.out;rw[List.take_length]at h3;refine Aw (by omega) (fun m hm=>?_) (fun m _=>h3 _ _);obtain⟨j,hj,rfl⟩:=List.getElem_of_mem hm;exact ax.out j hj hj
end
section
attribute [local go_sem ↓] Go.wp_at_zero Go.wp_at_succ
def eh(l:List aF)(o:Bool):yk:=if 400<l.length then .wrapped else if o&&dL l then .normal else .report
theorem ki{E:jU}{y:yk}{l:List aF}{o:Bool}(U:eh l o=y)(v:Value)(w:World)(C:∀m∈l,m.ok)(T:bt w w.heap.size v l)(I:dS w E):Calls Tryz.prog 223 #[v,.bool o] w fun e w'=>e=.returned (iW E y)/\ZW w w':=by
 have P:=aa C;have HV:=aa T;have HS:=aa I;have ad:=T.iF;obtain⟨ao,cap,rfl,hc,hm,hr⟩:=T;obtain⟨q,R⟩:∃q,dL l=q:=⟨_,rfl⟩;have HQ:=aa R;have ab:=I.gL;have ac:=I.gR;clear hr C I;by_cases h4:400<l.length;·
  obtain rfl:y=.wrapped:=by rw[<-U,eh,if_pos h4]
  go_in;go_wp2;go_ret;exact⟨rfl,Below.refl _ _⟩
 ·have HY:Hid (y=if o&&q then .normal else .report):=aa (by rw[<-U,eh,if_neg h4,R]);clear U R;cases o;·go_in;go_wp2;go_ret;exact⟨by rw[HY.out];rfl,Below.refl _ _⟩
  ·cases q;all_goals go_in;go_wp2_with(go_at_call 112;refine(mE HQ.out _ _ P.out HV.out).mono ?_;rintro e w1⟨rfl,j⟩;have J:=aa j;have kR:=(HS.out.carry j).gR;clear j);go_ret;exact⟨by rw[HY.out];rfl,J.out⟩
theorem Fo{E:jU}(y:yk)(hy:y≠.normal)(w:World)(j:dS w E):Calls Tryz.prog 255 #[iW E y] w fun e w'=>e=.returned (.int .i64 y.code)/\w'=w:=by
 have HS:=aa j;have af:=j.gL;have al:=j.gN;have ah:=j.gM;obtain⟨cN,tN,J⟩:=j.bN;obtain⟨cL,tL,C⟩:=j.bL;obtain⟨cR,tR,P⟩:=j.bR;obtain⟨cM,tM,I⟩:=j.bM;have U:=aa (km E.aN E.aL _ _ _ _ w j.nL J C);have ab:=aa (km E.aR E.aL _ _ _ _ w (Ne.symm j.lR) P C);have ad:=aa (km E.aR E.aN _ _ _ _ w (Ne.symm j.nR) P J);have ac:=aa (km E.aR E.aM _ _ _ _ w j.rM P I);have R:=aa (km E.aM E.aL _ _ _ _ w (Ne.symm j.lM) I C);have T:=aa (km E.aM E.aN _ _ _ _ w (Ne.symm j.nM) I J);clear J C P I j HS;obtain⟨aN,l,aR,aM⟩:=E;simp only[]at*;cases y;·exact absurd rfl hy
 ·unfold iW;go_in;go_wp2_with(first|(go_at_call_of 289 l;refine U.out.mono ?_;rintro e w'⟨rfl,rfl⟩)|(go_at_call 289;refine(uU aN _).mono ?_;rintro e w'⟨rfl,rfl⟩));go_ret;exact⟨rfl,rfl⟩
 ·unfold iW;go_in;go_wp2_with(go_at_call 289;refine(uU l _).mono ?_;rintro e w'⟨rfl,rfl⟩);go_ret;exact⟨rfl,rfl⟩
 ·unfold iW;go_in;go_wp2_with(first|(go_at_call_of 289 l;refine ab.out.mono ?_;rintro e w'⟨rfl,rfl⟩)|(go_at_call_of 289 aN;refine ad.out.mono ?_;rintro e w'⟨rfl,rfl⟩)|(go_at_call_of 289 aM;refine ac.out.mono ?_;rintro e w'⟨rfl,rfl⟩));go_ret;exact⟨rfl,rfl⟩
 ·unfold iW;go_in;go_wp2_with(first|(go_at_call_of 289 l;refine R.out.mono ?_;rintro e w'⟨rfl,rfl⟩)|(go_at_call_of 289 aN;refine T.out.mono ?_;rintro e w'⟨rfl,rfl⟩)|(go_at_call 289;refine(uU aM _).mono ?_;rintro e w'⟨rfl,rfl⟩));go_ret;exact⟨rfl,rfl⟩
end
