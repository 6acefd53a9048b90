import Derived.Test.YtdiiiijkhpdcbaaGreatDoorProg
import Derived.Test.YtdiiiijkhpdcbaaGreatDoorRD00
import Derived.RangeFuncNested
import Derived.RangeFuncCalls
import Derived.Orders
import Derived.OrdersIn
import Derived.TacticsIn
namespace Go.Proofs.YtdiiiijkhpdcbaaGreatDoor
open Go.RowKit
set_option linter.unusedSimpArgs false
set_option linter.unusedVariables false
set_option maxHeartbeats 1000000
def sE(first:Bool)(c:Int):Bool:=(decide (97≤c)&&decide (c≤122))||(!first&&((decide (48≤c)&&decide (c≤57))||c==95))
def fe(s:ByteArray)(j:Nat):Int:=if h:j<s.size then(s[j].toNat:Int)else 0
def b9(s:ByteArray):Bool:=decide (1≤s.size)&&decide (s.size≤20)&&(List.range s.size).all fun j=>sE (j==0) (fe s j)
theorem pH{s:ByteArray}(h:s.size<1∨20<s.size):b9 s=false:=by
 unfold b9;rcases h with h|h;·have:decide (1≤s.size)=false:=decide_eq_false (by omega);simp[this]
 ·have:decide (s.size≤20)=false:=decide_eq_false (by omega);simp[this]
theorem j6{s:ByteArray}(j:Nat)(h:j<s.size)(l:sE (j==0) (fe s j)=false):b9 s=false:=by
 unfold b9;have:(List.range s.size).all (fun j=>sE (j==0) (fe s j))=false:=by rw[List.all_eq_false];exact⟨j,by simpa using h,by simpa using l⟩
 simp[this]
theorem tC{s:ByteArray}(l:1≤s.size)(C:s.size≤20)(h:∀j,j<s.size→sE (j==0) (fe s j)=true):b9 s=true:=by
 unfold b9;have:(List.range s.size).all (fun j=>sE (j==0) (fe s j))=true:=by rw[List.all_eq_true];intro j I;exact h j (by simpa using I)
 simp[this,l,C]
theorem ql(f:Bool)(c:Int):sE f c=true↔(97≤c∧c≤122)∨(f=false∧((48≤c∧c≤57)∨c=95)):=by simp[sE]
theorem qo(f:Bool)(c:Int):sE f c=false↔¬((97≤c∧c≤122)∨(f=false∧((48≤c∧c≤57)∨c=95))):=by rw[←ql];simp
theorem dN{s:ByteArray}{k:Nat}(h:k<s.size):fe s k=(s[k].toNat:Int):=by simp[fe,h]
theorem lI{s:ByteArray}{k:Nat}(h:∀j,j<k→sE (j==0) (fe s j)=true)(l:sE (k==0) (fe s k)=true):∀j,j<k+1→sE (j==0) (fe s j)=true:=by
 intro j C;by_cases e:j=k;·subst e;exact l
 ·exact h j (by omega)
theorem tX(s:ByteArray)(w:World)(hs:s.size≤maxLen):Calls Tryz.prog 177 #[.string s] w fun e w'=>e=.returned (.bool (b9 s))∧w'=w:=by
 unfold maxLen at hs;by_cases h:s.size<1∨20<s.size;·have hf:=aa (pH h);rcases h with h|h;all_goals go_enter Tryz.func177,Tryz.ntmps177;go_wp2;go_ret;exact⟨aC (bt hf),rfl⟩
 ·have h1:1≤s.size:=by omega
  have h2:s.size≤20:=by omega
  clear h;go_enter Tryz.func177,Tryz.ntmps177;go_wp2;go_loop[3](fun i=>∃k:Nat,k≤s.size∧i=.int .i64 k∧∀j,j<k→sE (j==0) (fe s j)=true)(fun i=>s.size-(intOf i).toNat);case atStart=>exact⟨0,Nat.zero_le _,rfl,fun j h=>absurd h (by omega)⟩
  case round=>
   obtain⟨k,hk,rfl,J⟩:=hrel;have T:=aa J;clear J;by_cases l:k<s.size;·
    have HB:=aa (dN l);by_cases I:97≤(s[k].toNat:Int)∧(s[k].toNat:Int)≤122;·
     have C:Hid (sE (k==0) (fe s k)=true):=by show sE _ _=true;rw[ql,dN l];exact .inl I
     obtain⟨U,c3⟩:=I;go_wp2;go_round;case rel=>exact⟨k+1,by omega,by go_num,lI (bt T) (bt C)⟩
     case measure=>simp[intOf];omega
    ·by_cases k0:k=0;·
      have C:=aa (j6 k l (by rw[qo,dN l];subst k0;simpa using I));subst k0;by_cases U:97≤(s[0].toNat:Int);·
       have c3:¬(s[0].toNat:Int)≤122:=by omega
       clear I;go_wp2;go_ret;exact⟨aC (bt C),rfl⟩
      ·clear I;go_wp2;go_ret;exact⟨aC (bt C),rfl⟩
     ·have k1:((k:Int)==0)=false:=by simp;omega
      have R:(k==0)=false:=by simp[k0]
      have P:((s[k].toNat:Int)<48)∨(48≤(s[k].toNat:Int)∧(s[k].toNat:Int)≤57)∨(57<(s[k].toNat:Int)∧(s[k].toNat:Int)<97∧(s[k].toNat:Int)≠95)∨(s[k].toNat:Int)=95∨122<(s[k].toNat:Int):=by omega
      rcases P with c|c|c|c|c;·
       have C:=aa (j6 k l (by rw[qo,dN l];omega));have c4:((s[k].toNat:Int)!=95)=true:=by simp;omega
       clear I R;go_wp2;go_ret;exact⟨aC (bt C),rfl⟩
      ·have C:Hid (sE (k==0) (fe s k)=true):=aa (by rw[ql,dN l];exact .inr ⟨R,.inl c⟩);obtain⟨U,c3⟩:=c;clear I R;go_wp2;go_round;case rel=>exact⟨k+1,by omega,by go_num,lI (bt T) (bt C)⟩
       case measure=>simp[intOf];omega
      ·have C:=aa (j6 k l (by rw[qo,dN l];omega));have c4:((s[k].toNat:Int)!=95)=true:=by simp;omega
       obtain⟨U,c3,-⟩:=c;have c7:decide ((s[k].toNat:Int)≤57)=false:=decide_eq_false (by omega);clear I R;go_wp2;go_ret;exact⟨aC (bt C),rfl⟩
      ·have C:Hid (sE (k==0) (fe s k)=true):=aa (by rw[ql,dN l];exact .inr ⟨R,.inr c⟩);have c4:((s[k].toNat:Int)!=95)=false:=by simp;omega
       have c5:57<(s[k].toNat:Int):=by omega
       have c6:(s[k].toNat:Int)<97:=by omega
       clear I R c;go_wp2;go_round;case rel=>exact⟨k+1,by omega,by go_num,lI (bt T) (bt C)⟩
       case measure=>simp[intOf];omega
      ·have C:=aa (j6 k l (by rw[qo,dN l];omega));have c4:((s[k].toNat:Int)!=95)=true:=by simp;omega
       have c7:decide ((s[k].toNat:Int)≤57)=false:=decide_eq_false (by omega);have c8:decide ((s[k].toNat:Int)≤122)=false:=decide_eq_false (by omega);clear I R;go_wp2;go_ret;exact⟨aC (bt C),rfl⟩
   ·go_wp2;go_ret;exact⟨aC (tC h1 h2 (fun j hj=>bt T j (by omega))),rfl⟩
def AL(c:Int):Bool:=decide (97≤c)&&decide (c≤122)
def Cc(c:Int):Bool:=decide (48≤c)&&decide (c≤57)
theorem iX(c:Int)(w:World):Calls Tryz.prog 246 #[.int .u8 c] w fun e w'=>e=.returned (.bool (AL c))∧w'=w:=by
 by_cases j:97≤c;·by_cases l:c≤122;all_goals go_enter Tryz.func246,Tryz.ntmps246;go_wp2;go_ret;exact⟨aC (by simp[AL,j,l]),rfl⟩
 ·go_enter Tryz.func246,Tryz.ntmps246;go_wp2;go_ret;exact⟨aC (by rw[AL,decide_eq_false (show¬97≤c by omega)];rfl),rfl⟩
theorem rj(c:Int)(w:World):Calls Tryz.prog 247 #[.int .u8 c] w fun e w'=>e=.returned (.bool (Cc c))∧w'=w:=by
 by_cases j:48≤c;·by_cases l:c≤57;all_goals go_enter Tryz.func247,Tryz.ntmps247;go_wp2;go_ret;exact⟨aC (by simp[Cc,j,l]),rfl⟩
 ·go_enter Tryz.func247,Tryz.ntmps247;go_wp2;go_ret;exact⟨aC (by rw[Cc,decide_eq_false (show¬48≤c by omega)];rfl),rfl⟩
theorem oG(f:Bool)(c:Int):sE f c=(AL c||(!f&&(Cc c||c==95))):=rfl
theorem lF(s:ByteArray)(w:World)(hs:s.size≤maxLen):Calls Tryz.prog 207 #[.string s] w fun e w'=>e=.returned (.bool (b9 s))∧w'=w:=by
 unfold maxLen at hs;by_cases h:s.size<1∨20<s.size;·
  have hf:=aa (pH h);rcases h with h|h;·have g:((s.size:Int)==0)=true:=beq_iff_eq.2 (by omega);go_enter Tryz.func207,Tryz.ntmps207;go_wp2_with fail;go_ret;exact⟨aC (bt hf),rfl⟩
  ·have g:((s.size:Int)==0)=false:=beq_eq_false_iff_ne.2 (by omega);go_enter Tryz.func207,Tryz.ntmps207;go_wp2_with fail;go_ret;exact⟨aC (bt hf),rfl⟩
 ·have U:1≤s.size:=by omega
  have h2:s.size≤20:=by omega
  have g:((s.size:Int)==0)=false:=beq_eq_false_iff_ne.2 (by omega);have g2:decide (20<(s.size:Int))=false:=decide_eq_false (by omega);have g3:0<s.size:=by omega
  clear h;cases hl:AL (s[0].toNat:Int);·have C:=aa (j6 (s:=s) 0 g3 (by rw[oG,dN g3,hl];rfl));have l:=aa hl;clear hl;go_enter Tryz.func207,Tryz.ntmps207;go_wp2_with(go_at_call 246;refine(iX _ _).mono ?_;rintro e w'⟨rfl,rfl⟩;rw[bt l]);go_ret;exact⟨aC (bt C),rfl⟩
  ·have l:=aa hl;have C:Hid (sE (0==0) (fe s 0)=true):=aa (by rw[oG,dN g3,hl];rfl);clear hl;go_enter Tryz.func207,Tryz.ntmps207;go_wp2_with(go_at_call 246;refine(iX _ _).mono ?_;rintro e w'⟨rfl,rfl⟩;rw[bt l]);go_loop[3](fun i=>∃k:Nat,1≤k∧k≤s.size∧i=.int .i64 k∧∀j,j<k→sE (j==0) (fe s j)=true)(fun i=>s.size-(intOf i).toNat);case atStart=>exact⟨1,Nat.le_refl _,U,rfl,fun j h=>by rw[show j=0 from by omega];exact bt C⟩
   case round=>
    obtain⟨k,ab,hk,rfl,J⟩:=hrel;have T:=aa J;clear J C l;by_cases I:k<s.size;·
     have P:(k==0)=false:=beq_eq_false_iff_ne.2 (by omega);cases hl:AL (s[k].toNat:Int);·
      cases hd:Cc (s[k].toNat:Int);·
       cases hu:((s[k].toNat:Int)==95);·
        have C:=aa (j6 (s:=s) k I (by rw[oG,dN I,hl,hd,hu,P];rfl));have l:=aa hl;have R:=aa hd;have c4:((s[k].toNat:Int)!=95)=true:=by rw[bne,hu];rfl
        clear hl hd hu P;go_wp2_with(first|(go_at_call 246;refine(iX _ _).mono ?_;rintro e w'⟨rfl,rfl⟩;rw[bt l])|(go_at_call 247;refine(rj _ _).mono ?_;rintro e w'⟨rfl,rfl⟩;rw[bt R]));go_ret;exact⟨aC (bt C),rfl⟩
       ·have C:Hid (sE (k==0) (fe s k)=true):=aa (by rw[oG,dN I,hl,hd,hu,P];rfl);have l:=aa hl;have R:=aa hd;have c4:((s[k].toNat:Int)!=95)=false:=by rw[bne,hu];rfl
        clear hl hd hu P;go_wp2_with(first|(go_at_call 246;refine(iX _ _).mono ?_;rintro e w'⟨rfl,rfl⟩;rw[bt l])|(go_at_call 247;refine(rj _ _).mono ?_;rintro e w'⟨rfl,rfl⟩;rw[bt R]));go_round;case rel=>exact⟨k+1,by omega,by omega,by go_num,lI (bt T) (bt C)⟩
        case measure=>simp[intOf];omega
      ·have C:Hid (sE (k==0) (fe s k)=true):=aa (by rw[oG,dN I,hl,hd,P];rfl);have l:=aa hl;have R:=aa hd;clear hl hd P;go_wp2_with(first|(go_at_call 246;refine(iX _ _).mono ?_;rintro e w'⟨rfl,rfl⟩;rw[bt l])|(go_at_call 247;refine(rj _ _).mono ?_;rintro e w'⟨rfl,rfl⟩;rw[bt R]));go_round;case rel=>exact⟨k+1,by omega,by omega,by go_num,lI (bt T) (bt C)⟩
       case measure=>simp[intOf];omega
     ·have C:Hid (sE (k==0) (fe s k)=true):=aa (by rw[oG,dN I,hl];rfl);have l:=aa hl;clear hl P;go_wp2_with(first|(go_at_call 246;refine(iX _ _).mono ?_;rintro e w'⟨rfl,rfl⟩;rw[bt l]));go_round;case rel=>exact⟨k+1,by omega,by omega,by go_num,lI (bt T) (bt C)⟩
      case measure=>simp[intOf];omega
    ·go_wp2;go_ret;exact⟨aC (tC U h2 (fun j hj=>bt T j (by omega))),rfl⟩
def r9(n:Int):Bool:=decide (0≤n)&&decide (n≤2)
def ie(m:aF):Bool:=b9 m.ct&&(b9 m.to&&(b9 m.label&&(!(m.ct.toList==m.to.toList)&&r9 m.sort)))
def eO(f t:ByteArray)(m:aF):Bool:=m.ct.toList==f.toList&&m.to.toList==t.toList
def fD(f t:ByteArray)(l:List aF):Nat:=l.countP (eO f t)
def dT(l:List aF):Bool:=decide (l.length≤36)&&l.all fun m=>ie m&&decide (fD m.ct m.to l≤3)
theorem s6{a b:ByteArray}(h:a.toList=b.toList):a=b:=by rw[Go.ByteArray.toList_eq,Go.ByteArray.toList_eq]at h;apply ByteArray.ext;exact Array.ext' h
theorem lG{f t:ByteArray}{m:aF}:eO f t m=true↔m.ct=f∧m.to=t:=by simp only[eO,Bool.and_eq_true,beq_iff_eq];exact⟨fun h=>⟨s6 h.1,s6 h.2⟩,fun h=>by rw[h.1,h.2];exact⟨rfl,rfl⟩⟩
theorem mw(m:aF):eO m.ct m.to m=true:=lG.2 ⟨rfl,rfl⟩
theorem mV(f t:ByteArray)(a b:List aF):fD f t (a++b)=fD f t a+fD f t b:=List.countP_append
theorem qH(f t:ByteArray)(m:aF):fD f t [m]=if eO f t m then 1 else 0:=by simp[fD,List.countP_cons]
theorem y8(f t:ByteArray)(l:List aF):fD f t l≤l.length:=List.countP_le_length
theorem Aq(f t:ByteArray)(l:List aF)(k:Nat):fD f t (l.take k)≤fD f t l:=by have:=mV f t (l.take k) (l.drop k);rw[List.take_append_drop]at this;omega
theorem s8(f t:ByteArray){l:List aF}{k:Nat}(h:k<l.length):fD f t (l.take (k+1))=fD f t (l.take k)+if eO f t l[k]then 1 else 0:=by rw[List.take_succ_eq_append_getElem h,mV,qH]
theorem wE{l:List aF}(h:36<l.length):dT l=false:=by rw[dT,decide_eq_false (by omega)];rfl
theorem zG{l:List aF}{m:aF}(j:m∈l)(h:ie m=false):dT l=false:=by
 have:(l.all fun m=>ie m&&decide (fD m.ct m.to l≤3))=false:=by rw[List.all_eq_false];exact⟨m,j,by simp[h]⟩
 rw[dT,this,Bool.and_false]
theorem wD{l:List aF}{m:aF}(j:m∈l)(h:3<fD m.ct m.to l):dT l=false:=by
 have:(l.all fun m=>ie m&&decide (fD m.ct m.to l≤3))=false:=by rw[List.all_eq_false];exact⟨m,j,by simp;intro _;omega⟩
 rw[dT,this,Bool.and_false]
theorem zH{l:List aF}(C:l.length≤36)(I:∀m∈l,ie m=true)(J:∀m∈l,fD m.ct m.to l≤3):dT l=true:=by rw[dT,decide_eq_true C,Bool.true_and,List.all_eq_true];intro m j;rw[I m j,decide_eq_true (J m j)];rfl
theorem zF{l:List aF}(h:dT l=true):l.length≤36:=by simp only[dT,Bool.and_eq_true,decide_eq_true_eq]at h;exact h.1
theorem EM{q:Bool}{n:Int}(j:r9 n=q)(w:World):Calls Tryz.prog 211 #[.int .i64 n] w fun e w'=>e=.returned (.bool q)∧w'=w:=by have l:=aa j;clear j;by_cases h:0≤n;all_goals go_enter Tryz.func211,Tryz.ntmps211;go_wp2_with fail;go_ret;exact⟨aC (by rw[←l.out];simp[r9, *];try omega),rfl⟩
theorem II(n j hi:Int)(w:World):Calls Tryz.prog 105 #[.int .i64 n,.int .i64 j,.int .i64 hi] w fun e w'=>e=.returned (.bool (decide (j≤n)&&decide (n≤hi)))∧w'=w:=by by_cases h:j≤n;all_goals go_enter Tryz.func105,Tryz.ntmps105;go_wp2_with fail;go_ret;refine⟨aC ?_,rfl⟩;simp[*];try omega
theorem FC{q:Bool}{n:Int}(j:r9 n=q)(w:World):Calls Tryz.prog 178 #[.int .i64 n] w fun e w'=>e=.returned (.bool q)∧w'=w:=by subst j;go_enter Tryz.func178,Tryz.ntmps178;go_wp2_with(go_at_call 105;refine(II _ _ _ _).mono ?_;rintro e w'⟨rfl,rfl⟩);go_ret;exact⟨aC rfl,rfl⟩
theorem jC{q:Bool}{s:ByteArray}(h:b9 s=q)(j:s.size≤maxLen)(w:World):Calls Tryz.prog 207 #[.string s] w fun e w'=>e=.returned (.bool q)∧w'=w:=by subst h;exact lF s w j
theorem uU{q:Bool}{s:ByteArray}(h:b9 s=q)(j:s.size≤maxLen)(w:World):Calls Tryz.prog 177 #[.string s] w fun e w'=>e=.returned (.bool q)∧w'=w:=by subst h;exact tX s w j
def BG(P:Program)(gf:Nat)(lb:Array Value)(N:Nat)(Y:Nat→Array Value→World→World→Prop)(K:World→Prop):Prop:=∀(l:Nat)(J:Nat→List Nat→World→Prop)(X:List Nat)(W:World),(∀k X j R,J k X j→Below j.heap.size j R→J k X R)→(∀k X j,J k X j→K j∧∀b∈X,b<j.heap.size)→(∀k args X I j,k<N→J k X I→Below I.heap.size I j→Y k args I j→YieldAt Fence.wide 0 P l args j fun e C=>e=.returned (.bool true)∧∃T,J (k+1) T C∧aI j C X∧∀b∈T,b∈X∨j.heap.size≤b)→J 0 X W→CallsIn Fence.wide 0 P gf (#[.func (.yield l) #[] #[]]++lb) W fun e C=>(∃v,e=.returned v)∧∃X,J N X C
theorem sX{w w':World}{l l':List Nat}(h:aI w w' l)(J:∀b∈l,b∈l'):aI w w' l':=⟨h.os,h.tape,h.output,h.size,fun b j I=>h.block b j (fun C=>I (J b C))⟩
theorem iZ(w:World)(l:Nat)(o:Obj):aI w (w.putObj l o) [l]:=⟨rfl,rfl,rfl,by simp,fun b _ j=>World.putObj_heap_other (by intro e;exact j (by simp[e]))⟩
def Ha(I:Nat→List Nat→World→Prop)(k B:Nat)(X:List Nat)(W:World):Exit→Act→World→Prop|.normal,_,j=>aI W j X∧∃l,I (k+1) l j∧∀b∈l,b∈X∨B≤b|_,_,_=>False
theorem Ea{P:Program}{g:Operand}{ps:Array Tmp}{assign body:Code}{Q:Exit→Act→World→Prop}{a:Act}{w:World}{gf:Nat}{lb:Array Value}{N:Nat}{Y:Nat→Array Value→World→World→Prop}{K:World→Prop}(hg:a.eval g=.func (.func gf) #[] lb)(eg:∀args w,(callFunc gf args).run P w=.ok (.enter gf args) w)(a7:BG P gf lb N Y K)(bf:∀k args j W,Y k args j W→args.size=ps.size)(I:Nat→List Nat→World→Prop)(aL:∀k X U W2,I k X U→Below U.heap.size U W2→I k X W2)(aM:∀k X W W',I k X W→w.heap.size∉X→w.heap.size+1∉X→W.heap.size=W'.heap.size→aI W W' [w.heap.size+1]→I k X W')(af:∀k X W,I k X W→K W∧∀b∈X,b<W.heap.size)(X0:List Nat)(h0:I 0 X0 w)(al:∀k args X j W,k<N→I k X j→w.heap.size+2≤j.heap.size→w.heap.size∉X→w.heap.size+1∉X→Below j.heap.size j W→Y k args j W→assign.wpIn (Fence.wide.inRound (w.heap.size+1)) 0 P (Exit.then (fun a₁ W₁=>Below W.heap.size W W₁∧∀W₂,aI W₁ W₂ [w.heap.size+1]→W₂.heap.size=W₁.heap.size→body.wpIn (Fence.wide.inRound (w.heap.size+1)) 0 P (Ha I k W.heap.size X W₂) a₁ W₂) (fun _ _ _=>False)) {tmps:=(ps.zip args).foldl (fun t(p,v)=>t.setIfInBounds p v) a.tmps,defers:=[]} W)(ax:∀X W,I N X W→w.heap.size∉X→w.heap.size+1∉X→w.heap.size+2≤W.heap.size→W.heap[w.heap.size]?=some (.deferred (some []))→Q .normal {a with defers:={target:=.collected w.heap.size,args:=#[]}::a.defers} W):(Code.rangeFunc g ps assign body).wpIn Fence.wide 0 P Q a w:=by
 refine wpIn_rangeFunc ?_;intro fn bi;obtain⟨T,l⟩:∃T:Loop,T={state:=.ready,pending:=none,fn:=fn,tmps:=a.tmps,params:=ps,assign:=assign,body:=body,defers:=w.heap.size}:=⟨_,rfl⟩;have hB:Below w.heap.size w ((w.alloc (.deferred (some []))).alloc (.loop T)):=((Below.refl _ w).alloc (Nat.le_refl _) _).alloc (by simp) _;have a0:((w.alloc (.deferred (some []))).alloc (.loop T)).heap[w.heap.size+1]?=some (.loop T):=by have:=World.alloc_heap_new (w.alloc (.deferred (some []))) (.loop T);rwa[World.size_alloc]at this
 have aR:((w.alloc (.deferred (some []))).alloc (.loop T)).heap[w.heap.size]?=some (.deferred (some [])):=(Below.heap_alloc _ _ _ (by simp)).trans (World.alloc_heap_new w _);obtain⟨j,aN⟩:∃j,j=(w.alloc (.deferred (some []))).alloc (.loop T):=⟨_,rfl⟩;rw[←aN]at hB a0 aR;refine⟨w.heap.size+1,[{target:=.collected w.heap.size,args:=#[]}],j,{target:=.fn (.func gf) lb,args:=#[.func (.yield (w.heap.size+1)) #[] #[]]},j,gf,#[.func (.yield (w.heap.size+1)) #[] #[]]++lb,j,?_,?_,fun _ _=>trivial,?_,fun h=>by simp[Fence.wide]at h,?_⟩;·rw[aN,l];exact run_enterLoop_outer _ _ _ _ _
 ·simp only[resolve,hg];simp[go_sem]
 ·simp[invoke,go_sem,eg]
 ·refine(a7 (w.heap.size+1) (fun k X W=>∃C,X=(w.heap.size+1)::C∧I k C W∧(w.heap.size∉C∧w.heap.size+1∉C)∧W.heap[w.heap.size+1]?=some (.loop T)∧W.heap[w.heap.size]?=some (.deferred (some []))) ((w.heap.size+1)::X0) j ?_ ?_ ?_ ⟨X0,rfl,aL 0 X0 w j h0 hB,⟨fun hm=>absurd ((af 0 X0 w h0).2 _ hm) (by omega),fun hm=>absurd ((af 0 X0 w h0).2 _ hm) (by omega)⟩,a0,aR⟩).mono ?_;·rintro k X U W2⟨C,e,hi,R,hl,hd⟩J;exact⟨C,e,aL k C U W2 hi J,R,(J.block _ (Array.getElem?_eq_some_iff.1 hl).1).trans hl,(J.block _ (Array.getElem?_eq_some_iff.1 hd).1).trans hd⟩
  ·rintro k X U⟨C,rfl,hi,R,hl,hd⟩;refine⟨(af k C U hi).1,fun b J=>?_⟩;rcases List.mem_cons.1 J with rfl|J;·exact(Array.getElem?_eq_some_iff.1 hl).1
   ·exact(af k C U hi).2 b J
  ·rintro k args X U W hk⟨C,rfl,hi,R,hl,hd⟩ah hy;have ay:=(Array.getElem?_eq_some_iff.1 hl).1;have a6:w.heap.size+1<W.heap.size:=Nat.lt_of_lt_of_le ay ah.size;have a4:W.heap[w.heap.size+1]?=some (.loop T):=(ah.block _ ay).trans hl;have a9:W.heap[w.heap.size]?=some (.deferred (some [])):=(ah.block _ (by omega)).trans hd;refine⟨fn,_,assign,body,by have:=run_yield (P:=P) (args:=args) a4 (by rw[l];exact bf k args U W hy);rw[l]at this;exact this,roundIn_of_wpIn trivial ?_⟩;refine wpIn_mono (al k args C U W hk hi (by omega) R.1 R.2 ah hy) ?_;intro e a1 W2 hq;cases e with
    |normal=>
     obtain⟨aq,av⟩:=hq;have a2:W2.heap[w.heap.size+1]?=some (.loop T):=(aq.block _ a6).trans a4;have a8:W2.heap[w.heap.size]?=some (.deferred (some [])):=(aq.block _ (by omega)).trans a9;have an:=(Array.getElem?_eq_some_iff.1 a2).1;refine⟨_,run_beginRound a2 (by rw[l]),wpIn_mono (av _ (iZ _ _ _) (by simp)) ?_⟩;intro e3 a3 W3 h3;cases e3 with
      |normal=>
       obtain⟨ao,ad,bb,az⟩:=h3;have ab:w.heap.size+1<(W2.putObj (w.heap.size+1) (.loop {T with state:=.busy})).heap.size:=by simpa using an
       have e2:=(ao.block _ ab R.2).trans (World.putObj_heap_same an);have e1:=(ao.block _ (Nat.lt_trans (by omega) ab) R.1).trans ((World.putObj_heap_other (by omega)).trans a8);have a5:=(Array.getElem?_eq_some_iff.1 e2).1;have ac:w.heap.size∉ad∧w.heap.size+1∉ad:=⟨fun hm=>by rcases az _ hm with h|h;exact R.1 h;omega,fun hm=>by rcases az _ hm with h|h;exact R.2 h;omega⟩;refine⟨_,_,run_endRound none e2,rfl,(w.heap.size+1)::ad,⟨ad,rfl,aM _ _ _ _ bb ac.1 ac.2 (by simp) (iZ _ _ _),ac,?_,(World.putObj_heap_other (by omega)).trans e1⟩,?_,?_⟩;·rw[World.putObj_heap_same a5,l];rfl
       ·refine sX ((ag aq).trans ((iZ W2 (w.heap.size+1) (.loop {T with state:=.busy})).trans (ao.trans (iZ W3 (w.heap.size+1) _)))) (fun b J=>?_);simp only[List.nil_append,List.mem_append,List.mem_cons,List.not_mem_nil,or_false]at J;rcases J with h|h|h;·rw[h];exact List.mem_cons_self
        ·exact List.mem_cons_of_mem _ h
        ·rw[h];exact List.mem_cons_self
       ·intro b J;rcases List.mem_cons.1 J with rfl|J;·exact .inl List.mem_cons_self
        ·rcases az b J with h|h;·exact .inl (List.mem_cons_of_mem _ h)
         ·exact .inr h|_=>exact h3.elim
    |_=>exact hq.elim
  ·rintro e W2⟨⟨v,rfl⟩,X,C,rfl,hi,R,hl,hd⟩;have ay:=(Array.getElem?_eq_some_iff.1 hl).1;refine⟨none,_,by have:=run_endLoop (P:=P) hl (by rw[l];simp);rw[l]at this;exact this,ax C _ (aM _ _ _ _ hi R.1 R.2 (by simp) (iZ _ _ _)) R.1 R.2 (by simp;omega) ((World.putObj_heap_other (by omega)).trans hd)⟩
theorem Fb{P:Program}{j:Array Oper}{Q:Exit→Act→World→Prop}{K K':Act→World→Prop}{i l:Nat}{a:Act}{w:World}(R:∀(o:Oper)(c:Call),j[i]?=some o→o.op≠.defer c)(J:¬LetsOut Q)(C:∀a w,K a w→K' a w)(h:wpOp P j Q i K a w):wpOpIn (Fence.wide.inRound l) 0 P j Q i K' a w:=by
 unfold wpOp at h;unfold wpOpIn;cases T:j[i]? with
  |none=>simp only[T]at h⊢;exact C _ _ h|some o=>
   simp only[T]at h⊢;split;·
    rename_i U;rw[if_pos U]at h;rcases h with h|⟨-,h⟩;·
     refine⟨fun _ _=>trivial,?_⟩;have e:o.semAt (Fence.wide.inRound l).round a.eval=execOp a.eval o:=Oper.semAt_some l _ o (fun c=>R o c T);rw[e];unfold Oper.wp at h;cases hr:(execOp a.eval o).run P w with
      |ok x w'=>
       rw[hr]at h;cases x with
        |value v=>exact C _ _ h|skip=>exact C _ _ h|defer d=>exact C _ _ h|enter f args=>refine⟨fun h=>by simp[Fence.wide,Fence.inRound]at h,CallsIn.inRound l (callsIn_wide.2 ?_)⟩;refine Calls.mono h fun e ab I=>?_;cases e with|returned v=>exact C _ _ I|panicked c=>exact I|outgrown=>exact I
        |row r args=>exact⟨fun h=>by simp[Fence.wide,Fence.inRound]at h,fun c cs _=>let⟨v,w',r,s⟩:=h c cs;⟨v,w',C _ _ r,stepsIn_wide.2 s⟩⟩|round l f tmps assign body=>exact h.elim|_=>exact h.elim
      |halt x w'=>rw[hr]at h;cases x<;>exact h
    ·exact absurd h J
   ·rename_i U;rw[if_neg U]at h;exact⟨fun _ _=>trivial,C _ _ h⟩
theorem vj{P:Program}{md:Region.Mode}{j:Array Oper}{Q:Exit→Act→World→Prop}{l:Nat}(I:∀(i:Nat)(o:Oper)(c:Call),j[i]?=some o→o.op≠.defer c)(C:¬LetsOut Q):∀(fuel:Nat)(listed:Array Bool)(a:Act)(w:World),wpAny P md j Q fuel listed a w→wpAnyIn (Fence.wide.inRound l) 0 P md j Q fuel listed a w|0,_,_,_,h=>h|fuel+1,_,_,_,h=>⟨h.1,fun i hi=>Fb (I i) C (fun J w' R=>vj I C fuel _ J w' R) (h.2 i hi)⟩
def uG(j:Array Oper):Bool:=j.all fun o=>match o.op with|.defer _=>false|_=>true
theorem uH{j:Array Oper}(h:uG j=true):∀(i:Nat)(o:Oper)(c:Call),j[i]?=some o→o.op≠.defer c:=by intro i o c hi C;unfold uG at h;rw[Array.all_eq_true]at h;obtain⟨l,rfl⟩:=Array.getElem?_eq_some_iff.1 hi;have:=h i l;rw[C]at this;cases this
theorem uM{P:Program}{R l:Nat}{j:Array Oper}{Q:Exit→Act→World→Prop}{a:Act}{w:World}(J:P.follows .mixedOrders=true)(I:uG j=true)(C:¬LetsOut Q)(h:wpAny P .any j Q j.size (Array.replicate j.size false) a w.drew):(Code.region R j true).wpIn (Fence.wide.inRound l) 0 P Q a w:=wpIn_region_any J (vj (uH I) C _ _ _ _ h)
end Go.Proofs.YtdiiiijkhpdcbaaGreatDoor
