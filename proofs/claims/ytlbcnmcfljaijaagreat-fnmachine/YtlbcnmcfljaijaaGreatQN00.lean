import Derived.WalkKit
import Derived.WalkSpells
import Derived.WalkLawsBesides
import Derived.Below
import Derived.Test.YtlbcnmcfljaijaaGreatRows
import Derived.Deep.RegionWith
import Derived.Deep.LoopGhost
import Derived.Laws.Rows
import Derived.Laws.MakeOwn
import Derived.Deep.Slices
import Derived.ChangeArms
import Derived.ChangeSame
import Derived.BigQuiet
import Derived.Lib.BufferWrite
import Derived.Laws.CopyOwn
import Derived.OrdersHeld
import Derived.StillTail
import Derived.OpenShut
import Derived.Deep.RegionLaw
import Derived.Laws.AppendOwn
import Derived.Maps.AppendAt
import Derived.Maps.OwnSet
import Derived.DeepKeys4
import Derived.Deep.DrawnRows
import Derived.Maps.RangeWalk
namespace Go.Proofs.YtlbcnmcfljaijaaGreat
open Go.RowKit
set_option linter.unusedSimpArgs false
set_option linter.unusedVariables false
set_option maxHeartbeats 1000000
set_option maxRecDepth 100000
theorem aa{p:Prop}(h:p):Hid p:=h
theorem a6{p:Prop}(h:Hid p):p:=h
theorem aF{a b:Bool}(h:b=a):Ending.returned (.bool a)=.returned (.bool b):=by rw[h]
theorem aU{k:IntKind}{a b:Int}(h:b=a):Ending.returned (.int k a)=.returned (.int k b):=by rw[h]
theorem dY{a b:ByteArray}(h:b=a):Ending.returned (.string a)=.returned (.string b):=by rw[h]
theorem An{W j:World}(l:Below W.heap.size W j):(∀b o,b<W.heap.size→j.cell? ⟨b,o,none⟩=W.cell? ⟨b,o,none⟩)∧(∀b o,b<W.heap.size→j.frozen? ⟨b,o,none⟩=W.frozen? ⟨b,o,none⟩):=⟨fun b o h=>l.cell (p:=⟨b,o,none⟩) h,fun b o h=>l.frozen (p:=⟨b,o,none⟩) h⟩
def mD(k:Nat):Code→Option Code
 |.region id ops d=>if id==k then some (.region id ops d)else none|.seq a b=>match mD k a with|some c=>some c|none=>mD k b
 |.cond _ a b=>match mD k a with|some c=>some c|none=>mD k b
 |.block _ c=>mD k c|.loop c=>mD k c|.scope c=>mD k c|_=>none
def wh(K:Act→World→Prop):Exit→Act→World→Prop|.normal,a,w=>K a w|_,_,_=>False
theorem Bi{P:Program}{c:Code}{Q:Exit→Act→World→Prop}{a:Act}{w:World}(h:c.wp P (wh fun a' w'=>Q .normal a' w') a w):c.wp P Q a w:=Code.wp_mono (fun e a' w' j=>by cases e<;>first|exact j|exact j.elim) h
theorem iC{a b c:World}(j:Below a.heap.size a b)(l:Below b.heap.size b c):Below a.heap.size a c:=j.trans (l.mono j.size)
theorem kX{P:World→Prop}{w w':World}(I:∀W W',P W→Below W.heap.size W W'→P W')(h:P w)(j:Below w.heap.size w w')(F:World→Prop)(hF:F w')(l:∀W W',F W→Below W.heap.size W W'→F W'):∃Q:World→Prop,Q w'∧(∀W W',Q W→Below W.heap.size W W'→Q W')∧(∀W,Q W→P W∧F W):=⟨fun W=>P W∧F W,⟨I _ _ h j,hF⟩,fun _ _ h j=>⟨I _ _ h.1 j,l _ _ h.2 j⟩,fun _ h=>h⟩
theorem ai(w:World)(o:Obj):Below w.heap.size w (w.alloc o):=(Below.refl _ _).alloc (Nat.le_refl _) o
theorem bY(W:World)(o:Obj)(k:Nat)(h:k=W.heap.size):(W.alloc o).heap[k]?=some o:=by subst h;show(W.heap.push o)[W.heap.size]?=_;simp
theorem fL(W:World)(o:Obj)(k:Nat)(h:k<W.heap.size):(W.alloc o).heap[k]?=W.heap[k]?:=Below.heap_alloc W o k h
structure FJ(B:Nat)(w:World)(v:Value):Prop where free:∀b,v.ownBlock=some b→B≤b∧b<w.heap.size∧∀j,w.frozen? ⟨b,j,none⟩=false
theorem FJ.carry{B:Nat}{w w':World}{v:Value}(h:FJ B w v)(l:Below w.heap.size w w'):FJ B w' v:=⟨fun b e=>⟨(h.free b e).1,Nat.lt_of_lt_of_le (h.free b e).2.1 l.size,fun j=>(l.frozen (p:=⟨b,j,none⟩) (h.free b e).2.1).trans ((h.free b e).2.2 j)⟩⟩
def tg(first:Bool)(c:Int):Bool:=(decide (97≤c)&&decide (c≤122))||(!first&&((decide (48≤c)&&decide (c≤57))||c==95))
def ei(s:ByteArray)(j:Nat):Int:=if h:j<s.size then(s[j].toNat:Int)else 0
def du(s:ByteArray):Bool:=decide (1≤s.size)&&decide (s.size≤20)&&(List.range s.size).all fun j=>tg (j==0) (ei s j)
theorem qN{s:ByteArray}(h:s.size<1∨20<s.size):du s=false:=by
 unfold du;rcases h with h|h;·have:decide (1≤s.size)=false:=decide_eq_false (by omega);simp[this]
 ·have:decide (s.size≤20)=false:=decide_eq_false (by omega);simp[this]
theorem kq{s:ByteArray}(j:Nat)(h:j<s.size)(l:tg (j==0) (ei s j)=false):du s=false:=by
 unfold du;have:(List.range s.size).all (fun j=>tg (j==0) (ei s j))=false:=by rw[List.all_eq_false];exact⟨j,by simpa using h,by simpa using l⟩
 simp[this]
theorem uO{s:ByteArray}(l:1≤s.size)(I:s.size≤20)(h:∀j,j<s.size→tg (j==0) (ei s j)=true):du s=true:=by
 unfold du;have:(List.range s.size).all (fun j=>tg (j==0) (ei s j))=true:=by rw[List.all_eq_true];intro j J;exact h j (by simpa using J)
 simp[this,l,I]
theorem rA(f:Bool)(c:Int):tg f c=true↔(97≤c∧c≤122)∨(f=false∧((48≤c∧c≤57)∨c=95)):=by simp[tg]
theorem rB(f:Bool)(c:Int):tg f c=false↔¬((97≤c∧c≤122)∨(f=false∧((48≤c∧c≤57)∨c=95))):=by rw[←rA];simp
theorem dy{s:ByteArray}{k:Nat}(h:k<s.size):ei s k=(s[k].toNat:Int):=by simp[ei,h]
theorem mU{s:ByteArray}{k:Nat}(h:∀j,j<k→tg (j==0) (ei s j)=true)(l:tg (k==0) (ei s k)=true):∀j,j<k+1→tg (j==0) (ei s j)=true:=by
 intro j I;by_cases e:j=k;·subst e;exact l
 ·exact h j (by omega)
theorem mY(s:ByteArray)(w:World)(hs:s.size≤maxLen):Calls Tryz.prog 60 #[.string s] w fun e w'=>e=.returned (.bool (du s))∧w'=w:=by
 unfold maxLen at hs;by_cases h:s.size<1∨20<s.size;·have hf:=aa (qN h);rcases h with h|h;all_goals go_enter Tryz.func60,Tryz.ntmps60;go_wp2;go_ret;exact⟨aF (a6 hf),rfl⟩
 ·have h1:1≤s.size:=by omega
  have h2:s.size≤20:=by omega
  clear h;go_enter Tryz.func60,Tryz.ntmps60;go_wp2;go_loop[3](fun i=>∃k:Nat,k≤s.size∧i=.int .i64 k∧∀j,j<k→tg (j==0) (ei s j)=true)(fun i=>s.size-(intOf i).toNat);case atStart=>exact⟨0,Nat.zero_le _,rfl,fun j h=>absurd h (by omega)⟩
  case round=>
   obtain⟨k,hk,rfl,R⟩:=hrel;have HA:=aa R;clear R;by_cases l:k<s.size;·
    have HB:=aa (dy l);by_cases J:97≤(s[k].toNat:Int)∧(s[k].toNat:Int)≤122;·
     have I:Hid (tg (k==0) (ei s k)=true):=by show tg _ _=true;rw[rA,dy l];exact .inl J
     obtain⟨c2,c3⟩:=J;go_wp2;go_round;case rel=>exact⟨k+1,by omega,by go_num,mU (a6 HA) (a6 I)⟩
     case measure=>simp[intOf];omega
    ·by_cases k0:k=0;·
      have I:=aa (kq k l (by rw[rB,dy l];subst k0;simpa using J));subst k0;by_cases c2:97≤(s[0].toNat:Int);·
       have c3:¬(s[0].toNat:Int)≤122:=by omega
       clear J;go_wp2;go_ret;exact⟨aF (a6 I),rfl⟩
      ·clear J;go_wp2;go_ret;exact⟨aF (a6 I),rfl⟩
     ·have k1:((k:Int)==0)=false:=by simp;omega
      have U:(k==0)=false:=by simp[k0]
      have T:((s[k].toNat:Int)<48)∨(48≤(s[k].toNat:Int)∧(s[k].toNat:Int)≤57)∨(57<(s[k].toNat:Int)∧(s[k].toNat:Int)<97∧(s[k].toNat:Int)≠95)∨(s[k].toNat:Int)=95∨122<(s[k].toNat:Int):=by omega
      rcases T with c|c|c|c|c;·
       have I:=aa (kq k l (by rw[rB,dy l];omega));have c4:((s[k].toNat:Int)!=95)=true:=by simp;omega
       clear J U;go_wp2;go_ret;exact⟨aF (a6 I),rfl⟩
      ·have I:Hid (tg (k==0) (ei s k)=true):=aa (by rw[rA,dy l];exact .inr ⟨U,.inl c⟩);obtain⟨c2,c3⟩:=c;clear J U;go_wp2;go_round;case rel=>exact⟨k+1,by omega,by go_num,mU (a6 HA) (a6 I)⟩
       case measure=>simp[intOf];omega
      ·have I:=aa (kq k l (by rw[rB,dy l];omega));have c4:((s[k].toNat:Int)!=95)=true:=by simp;omega
       obtain⟨c2,c3,-⟩:=c;have c7:decide ((s[k].toNat:Int)≤57)=false:=decide_eq_false (by omega);clear J U;go_wp2;go_ret;exact⟨aF (a6 I),rfl⟩
      ·have I:Hid (tg (k==0) (ei s k)=true):=aa (by rw[rA,dy l];exact .inr ⟨U,.inr c⟩);have c4:((s[k].toNat:Int)!=95)=false:=by simp;omega
       have c5:57<(s[k].toNat:Int):=by omega
       have c6:(s[k].toNat:Int)<97:=by omega
       clear J U c;go_wp2;go_round;case rel=>exact⟨k+1,by omega,by go_num,mU (a6 HA) (a6 I)⟩
       case measure=>simp[intOf];omega
      ·have I:=aa (kq k l (by rw[rB,dy l];omega));have c4:((s[k].toNat:Int)!=95)=true:=by simp;omega
       have c7:decide ((s[k].toNat:Int)≤57)=false:=decide_eq_false (by omega);have c8:decide ((s[k].toNat:Int)≤122)=false:=decide_eq_false (by omega);clear J U;go_wp2;go_ret;exact⟨aF (a6 I),rfl⟩
   ·go_wp2;go_ret;exact⟨aF (uO h1 h2 (fun j hj=>a6 HA j (by omega))),rfl⟩
def zh(c:Int):Bool:=decide (97≤c)&&decide (c≤122)
def BG(c:Int):Bool:=decide (48≤c)&&decide (c≤57)
theorem jf(c:Int)(w:World):Calls Tryz.prog 125 #[.int .u8 c] w fun e w'=>e=.returned (.bool (zh c))∧w'=w:=by
 by_cases j:97≤c;·by_cases l:c≤122;all_goals go_enter Tryz.func125,Tryz.ntmps125;go_wp2;go_ret;exact⟨aF (by simp[zh,j,l]),rfl⟩
 ·go_enter Tryz.func125,Tryz.ntmps125;go_wp2;go_ret;exact⟨aF (by rw[zh,decide_eq_false (show¬97≤c by omega)];rfl),rfl⟩
theorem sO(c:Int)(w:World):Calls Tryz.prog 126 #[.int .u8 c] w fun e w'=>e=.returned (.bool (BG c))∧w'=w:=by
 by_cases j:48≤c;·by_cases l:c≤57;all_goals go_enter Tryz.func126,Tryz.ntmps126;go_wp2;go_ret;exact⟨aF (by simp[BG,j,l]),rfl⟩
 ·go_enter Tryz.func126,Tryz.ntmps126;go_wp2;go_ret;exact⟨aF (by rw[BG,decide_eq_false (show¬48≤c by omega)];rfl),rfl⟩
theorem pX(f:Bool)(c:Int):tg f c=(zh c||(!f&&(BG c||c==95))):=rfl
theorem uG(s:ByteArray)(w:World)(hs:s.size≤maxLen):Calls Tryz.prog 91 #[.string s] w fun e w'=>e=.returned (.bool (du s))∧w'=w:=by
 unfold maxLen at hs;by_cases h:s.size<1∨20<s.size;·
  have hf:=aa (qN h);rcases h with h|h;·have g:((s.size:Int)==0)=true:=beq_iff_eq.2 (by omega);go_enter Tryz.func91,Tryz.ntmps91;go_wp2_with fail;go_ret;exact⟨aF (a6 hf),rfl⟩
  ·have g:((s.size:Int)==0)=false:=beq_eq_false_iff_ne.2 (by omega);go_enter Tryz.func91,Tryz.ntmps91;go_wp2_with fail;go_ret;exact⟨aF (a6 hf),rfl⟩
 ·have h1:1≤s.size:=by omega
  have h2:s.size≤20:=by omega
  have g:((s.size:Int)==0)=false:=beq_eq_false_iff_ne.2 (by omega);have g2:decide (20<(s.size:Int))=false:=decide_eq_false (by omega);have g3:0<s.size:=by omega
  clear h;cases l:zh (s[0].toNat:Int);·have J:=aa (kq (s:=s) 0 g3 (by rw[pX,dy g3,l];rfl));have I:=aa l;clear l;go_enter Tryz.func91,Tryz.ntmps91;go_wp2_with(go_at_call 125;refine(jf _ _).mono ?_;rintro e w'⟨rfl,rfl⟩;rw[a6 I]);go_ret;exact⟨aF (a6 J),rfl⟩
  ·have I:=aa l;have J:Hid (tg (0==0) (ei s 0)=true):=aa (by rw[pX,dy g3,l];rfl);clear l;go_enter Tryz.func91,Tryz.ntmps91;go_wp2_with(go_at_call 125;refine(jf _ _).mono ?_;rintro e w'⟨rfl,rfl⟩;rw[a6 I]);go_loop[3](fun i=>∃k:Nat,1≤k∧k≤s.size∧i=.int .i64 k∧∀j,j<k→tg (j==0) (ei s j)=true)(fun i=>s.size-(intOf i).toNat);case atStart=>exact⟨1,Nat.le_refl _,h1,rfl,fun j h=>by rw[show j=0 from by omega];exact a6 J⟩
   case round=>
    obtain⟨k,ab,hk,rfl,T⟩:=hrel;have HA:=aa T;clear T J I;by_cases R:k<s.size;·
     have U:(k==0)=false:=beq_eq_false_iff_ne.2 (by omega);cases l:zh (s[k].toNat:Int);·
      cases hd:BG (s[k].toNat:Int);·
       cases hu:((s[k].toNat:Int)==95);·
        have J:=aa (kq (s:=s) k R (by rw[pX,dy R,l,hd,hu,U];rfl));have I:=aa l;have HD:=aa hd;have c4:((s[k].toNat:Int)!=95)=true:=by rw[bne,hu];rfl
        clear l hd hu U;go_wp2_with(first|(go_at_call 125;refine(jf _ _).mono ?_;rintro e w'⟨rfl,rfl⟩;rw[a6 I])|(go_at_call 126;refine(sO _ _).mono ?_;rintro e w'⟨rfl,rfl⟩;rw[a6 HD]));go_ret;exact⟨aF (a6 J),rfl⟩
       ·have J:Hid (tg (k==0) (ei s k)=true):=aa (by rw[pX,dy R,l,hd,hu,U];rfl);have I:=aa l;have HD:=aa hd;have c4:((s[k].toNat:Int)!=95)=false:=by rw[bne,hu];rfl
        clear l hd hu U;go_wp2_with(first|(go_at_call 125;refine(jf _ _).mono ?_;rintro e w'⟨rfl,rfl⟩;rw[a6 I])|(go_at_call 126;refine(sO _ _).mono ?_;rintro e w'⟨rfl,rfl⟩;rw[a6 HD]));go_round;case rel=>exact⟨k+1,by omega,by omega,by go_num,mU (a6 HA) (a6 J)⟩
        case measure=>simp[intOf];omega
      ·have J:Hid (tg (k==0) (ei s k)=true):=aa (by rw[pX,dy R,l,hd,U];rfl);have I:=aa l;have HD:=aa hd;clear l hd U;go_wp2_with(first|(go_at_call 125;refine(jf _ _).mono ?_;rintro e w'⟨rfl,rfl⟩;rw[a6 I])|(go_at_call 126;refine(sO _ _).mono ?_;rintro e w'⟨rfl,rfl⟩;rw[a6 HD]));go_round;case rel=>exact⟨k+1,by omega,by omega,by go_num,mU (a6 HA) (a6 J)⟩
       case measure=>simp[intOf];omega
     ·have J:Hid (tg (k==0) (ei s k)=true):=aa (by rw[pX,dy R,l];rfl);have I:=aa l;clear l U;go_wp2_with(first|(go_at_call 125;refine(jf _ _).mono ?_;rintro e w'⟨rfl,rfl⟩;rw[a6 I]));go_round;case rel=>exact⟨k+1,by omega,by omega,by go_num,mU (a6 HA) (a6 J)⟩
      case measure=>simp[intOf];omega
    ·go_wp2;go_ret;exact⟨aF (uO h1 h2 (fun j hj=>a6 HA j (by omega))),rfl⟩
structure Grown(w:World)where
 val:World
 dN:Below w.heap.size w val
theorem aH(w:World):Nonempty (Grown w):=⟨⟨w,Below.refl _ _⟩⟩
theorem Grown.cell{w:World}(g:Grown w){p:Addr}(h:p.block<w.heap.size):g.val.cell? p=w.cell? p:=g.dN.cell h
theorem ae{w:World}{b o:Nat}{v:Value}(h:w.cell? ⟨b,o,none⟩=some v):∀g:Grown w,g.val.cell? ⟨b,o,none⟩=some v:=fun g=>(g.dN.cell (p:=⟨b,o,none⟩) (World.block_lt_of_cell? w _ h)).trans h
theorem aK{P:Program}{U:Nat}{Q:Exit→Act→World→Prop}{a:Act}{w:World}{l:List Oper}(T:P.follows .mixedOrders=true)(I:Region.lexB .any l.toArray=true)(h:∀W,W=w→wpQuiet P l.toArray (fun w'=>∃g:Grown W,w'=g.val) (fun a'=>∀w',Below W.heap.size W w'→Q .normal a' w') l a):(Code.region U l.toArray true).wp P Q a w:=by
 refine wp_region_quiet (C:=fun w'=>∃g:Grown w,w'=g.val) T I ⟨⟨_,(Below.refl _ _).drew⟩,rfl⟩ ?_;have j:=h w rfl;have e:(fun a'=>∀w',(∃g:Grown w,w'=g.val)→Q .normal a' w')=(fun a'=>∀w',Below w.heap.size w w'→Q .normal a' w'):=by funext a';refine propext ⟨fun h w' J=>h w' ⟨⟨w',J⟩,rfl⟩,fun h w'⟨g,R⟩=>?_⟩;rw[R];exact h _ g.dN
 rw[e];simpa using j
theorem lH{P:Program}{ops:Array Oper}{C:World→Prop}{Q:Exit→Act→World→Prop}:∀(l:List Oper)(a:Act)(w:World),C w→wpQuiet P ops C (fun a'=>∀w',C w'→Q .normal a' w') l a→wpList P ops Q l a w
 |[],_,w,I,h=>h w I|o::rest,a,w,I,h=>by
  unfold wpList;unfold wpQuiet at h;split;·rename_i j;rw[if_pos j]at h;exact .inl (Oper.wp_of_quiet I (fun a' w' J R=>lH rest a' w' J R) h)
  ·rename_i j;rw[if_neg j]at h;exact lH rest _ w I h
theorem bj(d:Nat){P:Program}{ops:Array Oper}{Q:Exit→Act→World→Prop}{a:Act}{w:World}{op:Op}{J:TypeId}{j:String}{l:Array Edge}{I:Option (Nat×Bool)}{rest:List Oper}(h:∀W,W=w→wpQuiet P ops (fun w'=>∃g:Grown W,w'=g.val) (fun a'=>∀w',Below W.heap.size W w'→Q .normal a' w') (⟨some d,op,J,j,l,I⟩::rest) a):wpList P ops Q (⟨some d,op,J,j,l,I⟩::rest) a w:=by
 refine lH (C:=fun w'=>∃g:Grown w,w'=g.val) _ _ _ ⟨⟨w,Below.refl _ _⟩,rfl⟩ ?_;have R:=h w rfl;have e:(fun a'=>∀w',(∃g:Grown w,w'=g.val)→Q .normal a' w')=(fun a'=>∀w',Below w.heap.size w w'→Q .normal a' w'):=by funext a';refine propext ⟨fun h w' T=>h w' ⟨⟨w',T⟩,rfl⟩,fun h w'⟨g,U⟩=>?_⟩;rw[U];exact h _ g.dN
 rw[e];exact R
theorem aP{P:Program}{f:FuncId}{args:Array Value}{w:World}{g:Grown w}{v:Value}(h:Calls P f args g.val fun e w'=>e=.returned v∧w'=g.val):Calls P f args g.val fun e j=>e=.returned v∧∃l:Grown w,j=l.val:=h.mono fun _ _⟨I,J⟩=>⟨I,g,J⟩
theorem aD{P:Program}{f:FuncId}{args:Array Value}{w:World}{g:Grown w}{v:Value}(h:Calls P f args g.val fun e w'=>e=.returned v∧Below g.val.heap.size g.val w'):Calls P f args g.val fun e j=>e=.returned v∧∃l:Grown w,j=l.val:=h.mono fun _ w'⟨I,J⟩=>⟨I,⟨w',g.dN.trans (J.mono g.dN.size)⟩,rfl⟩
theorem Tryz.I9:(Tryz.prog.info? 5).map (fun i=>(i.zero,i.size,i.bytes))=some (some (.int .u8 0),1,1):=by kernel_rfl
def bv(l:List UInt8):List Value:=l.map fun b=>Value.int .u8 (b.toNat:Int)
def fT(j:List ByteArray)(k:Nat):Nat:=((j.take k).map ByteArray.size).sum
def il(j:List ByteArray)(k:Nat):List UInt8:=(j.take k).flatMap (fun s=>s.data.toList)
def dr(j:List ByteArray):ByteArray:=⟨(il j j.length).toArray⟩
theorem oC{j:List ByteArray}{k:Nat}(h:k<j.length):fT j (k+1)=fT j k+j[k].size:=by unfold fT;rw[List.take_succ_eq_append_getElem h,List.map_append,List.sum_append];rfl
theorem wZ{j:List ByteArray}{k:Nat}(h:k<j.length):il j (k+1)=il j k++j[k].data.toList:=by unfold il;rw[List.take_succ_eq_append_getElem h,List.flatMap_append];simp only[List.flatMap_cons,List.flatMap_nil,List.append_nil]
theorem tF{j:List ByteArray}:∀{k:Nat},k≤j.length→fT j k≤fT j j.length:=by
 intro k l;obtain⟨d,hd⟩:∃d,k+d=j.length:=⟨j.length-k,by omega⟩;induction d generalizing k with
  |zero=>
   have:k=j.length:=by omega
   subst this;exact Nat.le_refl _|succ d ih=>have:=ih (k:=k+1) (by omega) (by omega);rw[oC (by omega)]at this;omega
theorem j7(j:List ByteArray)(k:Nat):(il j k).length=fT j k:=by unfold il fT;rw[List.length_flatMap];rfl
theorem Ee(w:World)(T:Nat)(h:T≤1000000000):(Instr.makeSlice 22 (.int .i64 (T:Int)) (.int .i64 (T:Int))).run Tryz.prog w=.ok (.slice (some ⟨w.heap.size,0,none⟩) T T) (w.alloc (.cells (madeCells #[.int .u8 0] T) 5)):=by obtain⟨J,hi,j,l,I⟩:=info_parts Tryz.I9;have:=run_make (P:=Tryz.prog) w 22 5 J (.int .u8 0) Tryz.underlying22 hi j .i64 .i64 (T:Int) (T:Int) (by omega) (by omega) (by rw[I];omega) (by omega);rw[l]at this;simpa[Value.cells]using this
def Laid(W:World)(g T:Nat)(l:List UInt8):Prop:=∃j:Array Value,W.heap[g]?=some (.cells j 5 (0,0))∧j.size=T∧j.toList.take l.length=bv l
theorem Laid.copy{W:World}{g T:Nat}{l:List UInt8}(h:Laid W g T l)(s:ByteArray)(hT:l.length+s.size≤T):∃W',(Builtin.copy_ #[22,9] 3 #[.slice (some ⟨g,l.length,none⟩) (T-l.length) (T-l.length),.string s]).run Tryz.prog W=.ok (.int .i64 (s.size:Int)) W'∧Laid W' g T (l++s.data.toList)∧(∀B R,Below B R W→B≤g→Below B R W'):=by
 obtain⟨j,U,ab,ht⟩:=h;have e:=Lib.run_copy_row_string (P:=Tryz.prog) W 22 9 3 5 g l.length (T-l.length) (T-l.length) s j 5 Tryz.underlying22 (by kernel_rfl) U (by omega) (by omega);refine⟨_,e,⟨_,setRow_heap W g j _ 5 (0,0) U,?_,?_⟩,fun B R I hB=>below_setRow I hB _⟩;·
  have I:(Lib.byteCells s.data.toList).length=s.size:=by rw[Lib.byteCells_length];rfl
  simp[I];omega
 ·have I:(Lib.byteCells s.data.toList).length=s.size:=by rw[Lib.byteCells_length];rfl
  have hl:(bv l).length=l.length:=by simp[bv]
  have J:(s.data.toList).length=s.size:=rfl;rw[List.length_append,J,ht];show List.take (l.length+s.size) (bv l++Lib.byteCells s.data.toList++j.toList.drop (l.length+s.size))=bv (l++s.data.toList);rw[List.take_append_of_le_length (by rw[List.length_append,hl,I];exact Nat.le_refl _),List.take_of_length_le (by rw[List.length_append,hl,I];exact Nat.le_refl _)];simp[bv,Lib.byteCells]
theorem Laid.empty{W:World}{g T:Nat}{l:List UInt8}(h:Laid W g T l)(s:ByteArray)(j:s.size=0):Laid W g T (l++s.data.toList):=by have:s.data.toList=[]:=List.eq_nil_of_length_eq_zero j;rw[this,List.append_nil];exact h
theorem Laid.step{W:World}{g T:Nat}{l:List UInt8}(h:Laid W g T l)(s:ByteArray)(J:l.length+s.size≤T):∃W',(Builtin.copy_ #[22,9] 3 #[.slice (some (if T=l.length then⟨g,0,none⟩else⟨g,l.length,none⟩)) (T-l.length) (T-l.length),.string s]).run Tryz.prog W=.ok (.int .i64 (s.size:Int)) W'∧Laid W' g T (l++s.data.toList)∧(∀B I,Below B I W→B≤g→Below B I W'):=by
 by_cases e:T=l.length;·
  rw[if_pos e];have j:s.size=0:=by omega
  refine⟨W,?_,h.empty s j,fun _ _ R _=>R⟩;rw[Lib.run_copy_empty_string (P:=Tryz.prog) W 22 9 3 5 _ _ _ s Tryz.underlying22 (by kernel_rfl) j,j];rfl
 ·rw[if_neg e];exact h.copy s J
theorem DY(w:World)(T:Nat):Laid (w.alloc (.cells (madeCells #[.int .u8 0] T) 5)) w.heap.size T []:=⟨_,heap_alloc_new w _,size_madeCells _ _,rfl⟩
theorem Laid.conv{W:World}{g T:Nat}{l:List UInt8}(h:Laid W g T l)(hl:l.length=T):(convert 22 9 (.slice (some ⟨g,0,none⟩) T T)).run Tryz.prog W=.ok (.string ⟨l.toArray⟩) W:=by
 obtain⟨I,hg,ab,ht⟩:=h;subst hl;refine run_convert_bytes_back (P:=Tryz.prog) W 22 9 5 ⟨g,0,none⟩ l.length l Tryz.underlying22 Tryz.underlying5 Tryz.underlying9 (fun j J=>?_);have R:(⟨g,0,none⟩:Addr).add j=⟨g,j,none⟩:=by unfold Addr.add;split<;>simp_all
 have U:W.cell? ⟨g,j,none⟩=I[j]?:=by simp[World.cell?,hg]
 rw[R,U];have hm:I.toList[j]?=(bv l)[j]?:=by rw[←ht,List.getElem?_take,if_pos J]
 rw[←Array.getElem?_toList,hm];simp[bv,J]
theorem sP(j:List ByteArray)(b cap:Nat)(w:World)(hb:b<w.heap.size)(hc:∀i(h:i<j.length),w.cell? ⟨b,i,none⟩=some (.string j[i]))(hT:fT j j.length≤1000000)(hn:j.length≤1000):Calls Tryz.prog 43 #[.slice (some ⟨b,0,none⟩) j.length cap] w fun e w'=>e=.returned (.string (dr j))∧Below w.heap.size w w':=by
 have HC:=aa hc;clear hc;go_enter Tryz.func43,Tryz.ntmps43;go_wp2;go_loop[3,5,12](fun z _ i=>∃k:Nat,k≤j.length∧i=.int .i64 k∧z=.int .i64 (fT j k:Int))(fun _ _ i=>j.length-(intOf i).toNat);case atStart=>exact⟨0,by omega,rfl,rfl⟩
 case round=>
  obtain⟨k,hk,rfl,rfl⟩:=hrel;have ag:=tF hk;by_cases J:k<j.length;·
   have HS:=aa (oC J);have ao:=HC.out k J;have ah:j[k].size≤1000000:=by have:=tF (show k+1≤j.length by omega);rw[HS.out]at this;omega
   generalize j[k]=s at*;go_wp2;go_round;case rel=>exact⟨k+1,by omega,by go_num,by rw[HS.out];go_num⟩
   case measure=>simp[intOf];omega
  ·obtain rfl:k=j.length:=by omega
   have av:=Ee w (fT j j.length) (by omega);go_wp2;have HT:Hid (∀k,k≤j.length→fT j k≤fT j j.length):=aa (fun k hk=>tF hk);have HE:Hid ((il j j.length).length=fT j j.length):=aa (j7 j _);have HL:=aa (DY w (fT j j.length));clear av ag hk J;generalize fT j j.length=T at*;go_loopw[7,9,25](fun a _ i wr=>∃k:Nat,k≤j.length∧i=.int .i64 k∧a=.int .i64 (fT j k:Int)∧Laid wr w.heap.size T (il j k)∧Below w.heap.size w wr)(fun _ _ i _=>j.length-(intOf i).toNat);case atStart=>exact⟨0,by omega,rfl,rfl,HL.out,(Below.refl _ _).alloc (Nat.le_refl _) _⟩
   case round=>
    obtain⟨k,hk,rfl,rfl,l,I⟩:=hrel;have ag:=HT.out k hk;by_cases J:k<j.length;·
     have HS:=aa (oC J);have HF:=aa (wZ J);have ao:=(I.cell (p:=⟨b,k,none⟩) hb).trans (HC.out k J);have ah:fT j k+j[k].size≤T:=by have:=HT.out (k+1) (by omega);rw[HS.out]at this;omega
     have R:=l.step j[k] (by rw[j7];exact ah);rw[j7]at R;obtain⟨W',af,ab,ad⟩:=R;rw[←HF.out]at ab;have ac:=aa ab;have U:=aa (ad _ _ I (Nat.le_refl _));clear ab ad l I HF;generalize fT j k=a at*;generalize j[k]=s at*;by_cases e:T=a;·
      subst e;rw[if_pos rfl,Nat.sub_self]at af;go_wp2;go_roundw;case rel=>exact⟨k+1,by omega,by go_num,by rw[HS.out];go_num,ac.out,U.out⟩
      case measure=>simp[intOf];omega
     ·rw[if_neg e]at af;have ax:a<T:=by omega
      go_wp2;go_roundw;case rel=>exact⟨k+1,by omega,by go_num,by rw[HS.out];go_num,ac.out,U.out⟩
      case measure=>simp[intOf];omega
    ·obtain rfl:k=j.length:=by omega
     have ay:=l.conv HE.out;have U:=aa I;clear l I;go_wp2;go_ret;exact⟨rfl,U.out⟩
def mO(J:Nat→Act→World→Prop)(Q:Exit→Act→World→Prop):Exit→Act→World→Prop|.goto l,a,w=>J l a w|e,a,w=>Q e a w
theorem lM{P:Program}{a:Act}{w:World}{Q:Exit→Act→World→Prop}{c:Code}(J:Nat→Act→World→Prop)(m:Nat→Act→World→Nat)(first:c.wp P (mO J Q) a w)(ad:∀l a w,J l a w→∃rest,findLabel c l=some rest∧rest.wp P (mO (fun l' a' w'=>J l' a' w'∧m l' a' w'<m l a w) Q) a w):(Code.scope c).wp P Q a w:=by
 intro b k cs;have key:∀n l a w,m l a w=n→J l a w→∃rest,findLabel c l=some rest∧∃e a' w',Q e a' w'∧Arrives P (lone (b.at a (.code rest::.inScope c::k)) cs w) b k cs e a' w':=by intro n;induction n using Nat.strongRecOn with|_ n ih=>intro l a w hn hJ;obtain⟨rest,hf,hw⟩:=ad l a w hJ;refine⟨rest,hf,?_⟩;obtain⟨e,a1,T,R,j⟩:=hw b (.inScope c::k) cs;cases e with|normal=>exact⟨.normal,a1,T,R,Steps.trans j (.one step_inScope)⟩|exit id=>exact⟨.exit id,a1,T,R,fun k' hk=>j k' (by simp[exitTo,hk])⟩|goto l'=>obtain⟨af,ag⟩:=R;obtain⟨ac,U,e2,a2,w2,ab,I⟩:=ih _ (by omega) l' a1 T rfl af;exact⟨e2,a2,w2,ab,.of_steps (j _ (by simp[gotoIn,U])) I⟩|ret=>exact⟨_,a1,T,R,j⟩|panic ch=>exact⟨_,a1,T,R,j⟩|outgrown=>exact⟨_,a1,T,R,j⟩
 obtain⟨e,a1,T,R,j⟩:=first b (.inScope c::k) cs;cases e with|normal=>exact⟨.normal,a1,T,R,.head step_scope (Steps.trans j (.one step_inScope))⟩|exit id=>exact⟨.exit id,a1,T,R,fun k' hk=>.head step_scope (j k' (by simp[exitTo,hk]))⟩|goto l'=>obtain⟨ac,U,e2,a2,w2,ab,I⟩:=key _ l' a1 T rfl R;exact⟨e2,a2,w2,ab,.of_steps (.head step_scope (j _ (by simp[gotoIn,U]))) I⟩|ret=>exact⟨_,a1,T,R,.of_steps (.one step_scope) j⟩|panic ch=>exact⟨_,a1,T,R,.of_steps (.one step_scope) j⟩|outgrown=>exact⟨_,a1,T,R,.of_steps (.one step_scope) j⟩
def i7(v:Nat):Prop:=v<18446744073709551616
theorem i7.lt{v:Nat}(h:i7 v):v<18446744073709551616:=h
def As(u i:Nat):UInt8:=UInt8.ofNat (u/128^i%128+128)
def nt(u k:Nat):UInt8:=UInt8.ofNat (u/128^k)
def jx:Nat→Nat→Nat|0,_=>0|f+1,u=>if u<128 then 0 else jx f (u/128)+1
def kb(u:Nat):List UInt8:=(List.range (jx 9 u)).map (As u)++[nt u (jx 9 u)]
def dC(n:Int):Nat:=if n<0 then(-2*n-1).toNat else(2*n).toNat
def ca(n:Int):ByteArray:=⟨(kb (dC n)).toArray⟩
theorem kS(u k:Nat):u/128^(k+1)=u/128^k/128:=by rw[Nat.pow_succ,Nat.div_div_eq_div_mul]
theorem nn(u k:Nat):u/128^(k+1)=u/128/128^k:=by rw[Nat.pow_succ,Nat.mul_comm,Nat.div_div_eq_div_mul]
theorem IK:∀(f u k:Nat),k≤f→(∀i,i<k→128≤u/128^i)→(u/128^k<128∨k=f)→jx f u=k:=by
 intro f;induction f with
  |zero=>intro u k h _ _;simp[jx];omega|succ f ih=>
   intro u k J j I;unfold jx;cases k with
    |zero=>
     have:u<128:=by simpa using I
     simp[this]|succ k=>have l:=j 0 (by omega);simp at l;rw[if_neg (by omega),ih (u/128) k (by omega) (fun i hi=>by rw[←nn];exact j (i+1) (by omega)) (by rw[←nn];omega)]
theorem pK{n:Int}(j:-9223372036854775808≤n)(l:n≤9223372036854775807):i7 (dC n):=by unfold i7 dC;split<;>omega
theorem nI{u:Nat}(h:i7 u):u/128^9<128:=by
 have:=h.lt;have e:(128:Nat)^9=9223372036854775808:=by decide
 rw[e];omega
theorem i7.div{u:Nat}(h:i7 u)(k:Nat):i7 (u/128^k):=Nat.lt_of_le_of_lt (Nat.div_le_self _ _) h
theorem FT(v:Nat)(h:i7 v):bits .and .u64 (v:Int) 127=((v%128:Nat):Int):=by rw[show(127:Int)=((127:Nat):Int)from rfl,bits_and_u64_nat v 127 h.lt (by decide)];rw[show v&&&127=v%128 from Nat.and_two_pow_sub_one_eq_mod v 7]
theorem Ci(v:Nat)(h:i7 v):bits .or .u8 (bits .and .u64 (v:Int) 127%256) 128=((v%128+128:Nat):Int):=by rw[FT v h,show((v%128:Nat):Int)%256=((v%128:Nat):Int)from by omega,u8_or128_right _ (by omega) (by omega)];omega
theorem GJ(x:Nat)(h:x<18446744073709551616):bits .xor .u64 IntKind.u64.max (x:Int)=18446744073709551615-(x:Int):=by
 have e:(BitVec.ofInt 64 IntKind.u64.max^^^BitVec.ofInt 64 (x:Int))= ~~~(BitVec.ofNat 64 x):=by rw[show BitVec.ofInt 64 IntKind.u64.max=BitVec.allOnes 64 from by decide];rw[show BitVec.ofInt 64 (x:Int)=BitVec.ofNat 64 x from by simp];exact BitVec.allOnes_xor
 show IntKind.u64.wrap ((BitVec.ofInt 64 IntKind.u64.max^^^BitVec.ofInt 64 (x:Int)).toNat:Nat)=_;rw[e,BitVec.toNat_not,BitVec.toNat_ofNat,IntKind.wrap_u64];omega
theorem DF{n:Int}(h:n<0)(j:-9223372036854775808≤n):bits .xor .u64 IntKind.u64.max (IntKind.u64.wrap (IntKind.u64.wrap n*2))=(dC n:Int):=by
 have e:IntKind.u64.wrap (IntKind.u64.wrap n*2)=(((2*n+18446744073709551616).toNat:Nat):Int):=by rw[IntKind.wrap_u64,IntKind.wrap_u64];omega
 rw[e,GJ _ (by omega)];unfold dC;rw[if_pos h];omega
theorem BN{n:Int}(h:n<0):(dC n:Int)=2*-(n+1)+1:=by unfold dC;rw[if_pos h];omega
theorem uB{n:Int}(h:¬n<0):(dC n:Int)=2*n:=by unfold dC;rw[if_neg h];omega
theorem y7{n:Int}(h:¬n<0):(dC n:Int)=n*2:=by rw[uB h];omega
theorem pG(u i:Nat):((As u i).toNat:Int)=((u/128^i%128+128:Nat):Int):=by unfold As;rw[UInt8.toNat_ofNat'];omega
theorem ml{u k:Nat}(h:u/128^k<128):((nt u k).toNat:Int)=((u/128^k:Nat):Int):=by unfold nt;generalize u/128^k=v at*;rw[UInt8.toNat_ofNat'];omega
def rh(u k:Nat):List UInt8:=(List.range k).map (As u)++[nt u k]
theorem eL(u k:Nat):(rh u k).length=k+1:=by simp[rh]
theorem vJ{u k i:Nat}(h:i<k):(rh u k)[i]?=some (As u i):=by unfold rh;rw[List.getElem?_append_left (by simpa using h)];simp[h]
theorem qe(u k:Nat):(rh u k)[k]?=some (nt u k):=by unfold rh;rw[List.getElem?_append_right (by simp)];simp
theorem rD{u k:Nat}(I:k≤9)(j:∀i,i<k→128≤u/128^i)(l:u/128^k<128):kb u=rh u k:=by unfold kb rh;rw[IK 9 u k I j (.inl l)]
theorem x8(u:Nat):1≤(kb u).length∧(kb u).length≤10:=by
 have:∀f u,jx f u≤f:=by intro f;induction f with|zero=>intro u;simp[jx]|succ f ih=>intro u;unfold jx;split;omega;have:=ih (u/128);omega
 have:=this 9 u;simp[kb];omega
section
section
variable{P:Program}{ops:Array Oper}{Q:Exit→Act→World→Prop}{S:World→Prop}
theorem bC(i d:Nat)(v:Value){J:Oper}{l:Nat}{j:Array Bool}{a:Act}{w:World}(hi:ops[i]?=some J)(hd:J.dst=some d)(I:(Region.noSelect ops&&Region.free .any ops j i&&(Region.ready .any ops j).contains i)=true)(T:Region.wanted J (yielded ops a.tmps)=true)(R:∀c a w,Q (.panic c) (a.put (some d) v) w→Q (.panic c) a w)(hS:S w)(U:∀W,S W→(execOp a.eval J).run P W=.ok (.value v) W)(h:wpAnyH P .any ops Q S l (j.setIfInBounds i true) (a.put (some d) v) w):wpAnyH P .any ops Q S (l+1) j a w:=by simp only[Bool.and_eq_true]at I;rw[←hd]at R h;exact wpAnyH_take hi I.1.1 I.1.2 I.2 R (Or.inl ⟨T,U⟩) hS h
theorem dI(i d:Nat){J:Oper}{l:Nat}{j:Array Bool}{a:Act}{w:World}(hi:ops[i]?=some J)(hd:J.dst=some d)(I:(Region.noSelect ops&&Region.free .any ops j i&&(Region.ready .any ops j).contains i)=true)(T:Region.wanted J (yielded ops a.tmps)=false)(R:∀c a w,Q (.panic c) (a.put (some d) undef) w→Q (.panic c) a w)(hS:S w)(h:wpAnyH P .any ops Q S l (j.setIfInBounds i true) (a.put (some d) undef) w):wpAnyH P .any ops Q S (l+1) j a w:=by simp only[Bool.and_eq_true]at I;rw[←hd]at R h;exact wpAnyH_take hi I.1.1 I.1.2 I.2 R (Or.inr ⟨T,rfl⟩) hS h
end
end
structure aB where
 kind:Int
 peer:ByteArray
def aB.val(x:aB):Value:=.agg #[.int .i64 x.kind,.string x.peer]
def aB.ok(x:aB):Prop:=x.peer.size≤maxLen
def aB.fit(x:aB):Prop:=x.peer.size≤1048576
def fp(w:World)(b o:Nat)(x:aB):Prop:=w.cell? ⟨b,o,none⟩=some (.int .i64 x.kind)∧w.cell? ⟨b,o+1,none⟩=some (.string x.peer)
def dM(w:World)(b:Nat):Nat→List aB→Prop|_,[]=>True|o,x::l=>fp w b o x∧dM w b (o+2) l
theorem fp.carry{w w':World}{b o:Nat}{x:aB}(h:fp w b o x){B:Nat}(j:b<B)(l:Below B w w'):fp w' b o x:=by obtain⟨I,J⟩:=h;exact⟨(l.cell (p:=⟨b,_,none⟩) j).trans I,(l.cell (p:=⟨b,_,none⟩) j).trans J⟩
theorem fp.lt{w:World}{b o:Nat}{x:aB}(h:fp w b o x):b<w.heap.size:=World.block_lt_of_cell? w _ h.1
theorem dM.carry{w w':World}{b B:Nat}(j:b<B)(I:Below B w w'):∀{l:List aB}{o:Nat},dM w b o l→dM w' b o l|[],_,_=>trivial|_::_,_,h=>⟨h.1.carry j I,dM.carry j I h.2⟩
theorem dM.get{w:World}{b:Nat}:∀{l:List aB}{o:Nat},dM w b o l→∀i(h:i<l.length),fp w b (o+i*2) l[i]|_::_,_,h,0,_=>by simpa using h.1|_::l,o,h,i+1,hi=>by have:=h.2.get i (by simpa using hi);rw[show o+2+i*2=o+(i+1)*2 from by omega]at this;simpa using this
theorem dM.of(w:World)(g:Nat):∀(l:List aB)(o:Nat),(∀j(h:j<l.length),fp w g (o+j*2) l[j])→dM w g o l|[],_,_=>trivial|x::l,o,h=>⟨by have:=h 0 (by simp);simpa only[Nat.zero_mul,Nat.add_zero,List.getElem_cons_zero]using this,dM.of w g l (o+2) (fun j I=>by have:=h (j+1) (by simpa using I);rw[show o+(j+1)*2=o+2+j*2 from by omega]at this;simpa only[List.getElem_cons_succ]using this)⟩
def cq(w:World)(B:Nat)(v:Value)(l:List aB):Prop:=∃j cap,v=.slice j l.length cap∧l.length≤cap∧l.length≤4294967296∧(l≠[]→∃b o,j=some ⟨b,o,none⟩∧b<B∧dM w b o l)
theorem cq.carry{w w':World}{B:Nat}{v:Value}{l:List aB}(h:cq w B v l)(hb:Below B w w'):cq w' B v l:=by obtain⟨J,cap,R,T,U,h4⟩:=h;refine⟨J,cap,R,T,U,fun I=>?_⟩;obtain⟨b,o,e,j,hr⟩:=h4 I;exact⟨b,o,e,j,hr.carry j hb⟩
theorem cq.up{w:World}{B I:Nat}{v:Value}{l:List aB}(h:cq w B v l)(hB:B≤I):cq w I v l:=by obtain⟨J,cap,R,T,U,h4⟩:=h;refine⟨J,cap,R,T,U,fun j=>?_⟩;obtain⟨b,o,e,ab,hr⟩:=h4 j;exact⟨b,o,e,by omega,hr⟩
theorem fp.block{w w':World}{b o:Nat}{x:aB}(h:fp w b o x)(j:w'.heap[b]?=w.heap[b]?):fp w' b o x:=by obtain⟨l,I⟩:=h;exact⟨(World.cell?_of_block (a:=⟨b,_,none⟩) j).trans l,(World.cell?_of_block (a:=⟨b,_,none⟩) j).trans I⟩
theorem dM.block{w w':World}{b:Nat}(j:w'.heap[b]?=w.heap[b]?):∀{l:List aB}{o:Nat},dM w b o l→dM w' b o l|[],_,_=>trivial|_::_,_,h=>⟨h.1.block j,dM.block j h.2⟩
theorem cq.keep{w w':World}{B J:Nat}{v:Value}{l:List aB}(h:cq w B v l)(hB:B≤J)(hk:∀b,v.ownBlock=some b→b<B→w'.heap[b]?=w.heap[b]?):cq w' J v l:=by obtain⟨R,cap,rfl,T,U,h4⟩:=h;refine⟨R,cap,rfl,T,U,fun I=>?_⟩;obtain⟨b,o,rfl,j,hr⟩:=h4 I;exact⟨b,o,rfl,by omega,hr.block (hk b rfl j)⟩
theorem cq.jc{w:World}{B:Nat}{v:Value}{l:List aB}(h:cq w B v l):l.length≤4294967296:=by obtain⟨j,cap,_,I,J,_⟩:=h;omega
theorem Tryz.jz:(Tryz.prog.info? 75).map (fun i=>(i.zero,i.size,i.bytes))=some (some (.agg #[.int .i64 0,.string ByteArray.empty]),2,24):=by kernel_rfl
structure ar where
 src:Int
 label:ByteArray
 sort:Int
 dst:Int
def ar.val(x:ar):Value:=.agg #[.int .i64 x.src,.string x.label,.int .i64 x.sort,.int .i64 x.dst]
def ar.ok(x:ar):Prop:=x.label.size≤maxLen
def ar.fit(x:ar):Prop:=x.label.size≤1048576
def eP(w:World)(b o:Nat)(x:ar):Prop:=w.cell? ⟨b,o,none⟩=some (.int .i64 x.src)∧w.cell? ⟨b,o+1,none⟩=some (.string x.label)∧w.cell? ⟨b,o+2,none⟩=some (.int .i64 x.sort)∧w.cell? ⟨b,o+3,none⟩=some (.int .i64 x.dst)
def fo(w:World)(b:Nat):Nat→List ar→Prop|_,[]=>True|o,x::l=>eP w b o x∧fo w b (o+4) l
theorem eP.carry{w w':World}{b o:Nat}{x:ar}(h:eP w b o x){B:Nat}(j:b<B)(l:Below B w w'):eP w' b o x:=by obtain⟨I,J,R,T⟩:=h;exact⟨(l.cell (p:=⟨b,_,none⟩) j).trans I,(l.cell (p:=⟨b,_,none⟩) j).trans J,(l.cell (p:=⟨b,_,none⟩) j).trans R,(l.cell (p:=⟨b,_,none⟩) j).trans T⟩
theorem eP.lt{w:World}{b o:Nat}{x:ar}(h:eP w b o x):b<w.heap.size:=World.block_lt_of_cell? w _ h.1
theorem fo.carry{w w':World}{b B:Nat}(j:b<B)(I:Below B w w'):∀{l:List ar}{o:Nat},fo w b o l→fo w' b o l|[],_,_=>trivial|_::_,_,h=>⟨h.1.carry j I,fo.carry j I h.2⟩
theorem fo.get{w:World}{b:Nat}:∀{l:List ar}{o:Nat},fo w b o l→∀i(h:i<l.length),eP w b (o+i*4) l[i]|_::_,_,h,0,_=>by simpa using h.1|_::l,o,h,i+1,hi=>by have:=h.2.get i (by simpa using hi);rw[show o+4+i*4=o+(i+1)*4 from by omega]at this;simpa using this
theorem fo.of(w:World)(g:Nat):∀(l:List ar)(o:Nat),(∀j(h:j<l.length),eP w g (o+j*4) l[j])→fo w g o l|[],_,_=>trivial|x::l,o,h=>⟨by have:=h 0 (by simp);simpa only[Nat.zero_mul,Nat.add_zero,List.getElem_cons_zero]using this,fo.of w g l (o+4) (fun j I=>by have:=h (j+1) (by simpa using I);rw[show o+(j+1)*4=o+4+j*4 from by omega]at this;simpa only[List.getElem_cons_succ]using this)⟩
def dm(w:World)(B:Nat)(v:Value)(l:List ar):Prop:=∃j cap,v=.slice j l.length cap∧l.length≤cap∧l.length≤4294967296∧(l≠[]→∃b o,j=some ⟨b,o,none⟩∧b<B∧fo w b o l)
theorem dm.carry{w w':World}{B:Nat}{v:Value}{l:List ar}(h:dm w B v l)(hb:Below B w w'):dm w' B v l:=by obtain⟨J,cap,R,T,U,h4⟩:=h;refine⟨J,cap,R,T,U,fun I=>?_⟩;obtain⟨b,o,e,j,hr⟩:=h4 I;exact⟨b,o,e,j,hr.carry j hb⟩
theorem dm.up{w:World}{B I:Nat}{v:Value}{l:List ar}(h:dm w B v l)(hB:B≤I):dm w I v l:=by obtain⟨J,cap,R,T,U,h4⟩:=h;refine⟨J,cap,R,T,U,fun j=>?_⟩;obtain⟨b,o,e,ab,hr⟩:=h4 j;exact⟨b,o,e,by omega,hr⟩
theorem eP.block{w w':World}{b o:Nat}{x:ar}(h:eP w b o x)(j:w'.heap[b]?=w.heap[b]?):eP w' b o x:=by obtain⟨l,I,J,R⟩:=h;exact⟨(World.cell?_of_block (a:=⟨b,_,none⟩) j).trans l,(World.cell?_of_block (a:=⟨b,_,none⟩) j).trans I,(World.cell?_of_block (a:=⟨b,_,none⟩) j).trans J,(World.cell?_of_block (a:=⟨b,_,none⟩) j).trans R⟩
theorem fo.block{w w':World}{b:Nat}(j:w'.heap[b]?=w.heap[b]?):∀{l:List ar}{o:Nat},fo w b o l→fo w' b o l|[],_,_=>trivial|_::_,_,h=>⟨h.1.block j,fo.block j h.2⟩
theorem dm.keep{w w':World}{B J:Nat}{v:Value}{l:List ar}(h:dm w B v l)(hB:B≤J)(hk:∀b,v.ownBlock=some b→b<B→w'.heap[b]?=w.heap[b]?):dm w' J v l:=by obtain⟨R,cap,rfl,T,U,h4⟩:=h;refine⟨R,cap,rfl,T,U,fun I=>?_⟩;obtain⟨b,o,rfl,j,hr⟩:=h4 I;exact⟨b,o,rfl,by omega,hr.block (hk b rfl j)⟩
theorem dm.jc{w:World}{B:Nat}{v:Value}{l:List ar}(h:dm w B v l):l.length≤4294967296:=by obtain⟨j,cap,_,I,J,_⟩:=h;omega
theorem Tryz.kn:(Tryz.prog.info? 61).map (fun i=>(i.zero,i.size,i.bytes))=some (some (.agg #[.int .i64 0,.string ByteArray.empty,.int .i64 0,.int .i64 0]),4,40):=by kernel_rfl
structure bl where
 kind:Int
 peer:ByteArray
 label:ByteArray
 sort:Int
def bl.val(x:bl):Value:=.agg #[.int .i64 x.kind,.string x.peer,.string x.label,.int .i64 x.sort]
def bl.ok(x:bl):Prop:=x.peer.size≤maxLen∧x.label.size≤maxLen
def bl.fit(x:bl):Prop:=x.peer.size≤1048576∧x.label.size≤1048576
def jo(w:World)(b o:Nat)(x:bl):Prop:=w.cell? ⟨b,o,none⟩=some (.int .i64 x.kind)∧w.cell? ⟨b,o+1,none⟩=some (.string x.peer)∧w.cell? ⟨b,o+2,none⟩=some (.string x.label)∧w.cell? ⟨b,o+3,none⟩=some (.int .i64 x.sort)
def iV(w:World)(b:Nat):Nat→List bl→Prop|_,[]=>True|o,x::l=>jo w b o x∧iV w b (o+4) l
theorem jo.carry{w w':World}{b o:Nat}{x:bl}(h:jo w b o x){B:Nat}(j:b<B)(l:Below B w w'):jo w' b o x:=by obtain⟨I,J,R,T⟩:=h;exact⟨(l.cell (p:=⟨b,_,none⟩) j).trans I,(l.cell (p:=⟨b,_,none⟩) j).trans J,(l.cell (p:=⟨b,_,none⟩) j).trans R,(l.cell (p:=⟨b,_,none⟩) j).trans T⟩
theorem jo.lt{w:World}{b o:Nat}{x:bl}(h:jo w b o x):b<w.heap.size:=World.block_lt_of_cell? w _ h.1
theorem iV.carry{w w':World}{b B:Nat}(j:b<B)(I:Below B w w'):∀{l:List bl}{o:Nat},iV w b o l→iV w' b o l|[],_,_=>trivial|_::_,_,h=>⟨h.1.carry j I,iV.carry j I h.2⟩
theorem iV.get{w:World}{b:Nat}:∀{l:List bl}{o:Nat},iV w b o l→∀i(h:i<l.length),jo w b (o+i*4) l[i]|_::_,_,h,0,_=>by simpa using h.1|_::l,o,h,i+1,hi=>by have:=h.2.get i (by simpa using hi);rw[show o+4+i*4=o+(i+1)*4 from by omega]at this;simpa using this
theorem iV.of(w:World)(g:Nat):∀(l:List bl)(o:Nat),(∀j(h:j<l.length),jo w g (o+j*4) l[j])→iV w g o l|[],_,_=>trivial|x::l,o,h=>⟨by have:=h 0 (by simp);simpa only[Nat.zero_mul,Nat.add_zero,List.getElem_cons_zero]using this,iV.of w g l (o+4) (fun j I=>by have:=h (j+1) (by simpa using I);rw[show o+(j+1)*4=o+4+j*4 from by omega]at this;simpa only[List.getElem_cons_succ]using this)⟩
def cU(w:World)(B:Nat)(v:Value)(l:List bl):Prop:=∃j cap,v=.slice j l.length cap∧l.length≤cap∧l.length≤4294967296∧(l≠[]→∃b o,j=some ⟨b,o,none⟩∧b<B∧iV w b o l)
theorem cU.carry{w w':World}{B:Nat}{v:Value}{l:List bl}(h:cU w B v l)(hb:Below B w w'):cU w' B v l:=by obtain⟨J,cap,R,T,U,h4⟩:=h;refine⟨J,cap,R,T,U,fun I=>?_⟩;obtain⟨b,o,e,j,hr⟩:=h4 I;exact⟨b,o,e,j,hr.carry j hb⟩
theorem cU.up{w:World}{B I:Nat}{v:Value}{l:List bl}(h:cU w B v l)(hB:B≤I):cU w I v l:=by obtain⟨J,cap,R,T,U,h4⟩:=h;refine⟨J,cap,R,T,U,fun j=>?_⟩;obtain⟨b,o,e,ab,hr⟩:=h4 j;exact⟨b,o,e,by omega,hr⟩
theorem jo.block{w w':World}{b o:Nat}{x:bl}(h:jo w b o x)(j:w'.heap[b]?=w.heap[b]?):jo w' b o x:=by obtain⟨l,I,J,R⟩:=h;exact⟨(World.cell?_of_block (a:=⟨b,_,none⟩) j).trans l,(World.cell?_of_block (a:=⟨b,_,none⟩) j).trans I,(World.cell?_of_block (a:=⟨b,_,none⟩) j).trans J,(World.cell?_of_block (a:=⟨b,_,none⟩) j).trans R⟩
theorem iV.block{w w':World}{b:Nat}(j:w'.heap[b]?=w.heap[b]?):∀{l:List bl}{o:Nat},iV w b o l→iV w' b o l|[],_,_=>trivial|_::_,_,h=>⟨h.1.block j,iV.block j h.2⟩
theorem cU.keep{w w':World}{B J:Nat}{v:Value}{l:List bl}(h:cU w B v l)(hB:B≤J)(hk:∀b,v.ownBlock=some b→b<B→w'.heap[b]?=w.heap[b]?):cU w' J v l:=by obtain⟨R,cap,rfl,T,U,h4⟩:=h;refine⟨R,cap,rfl,T,U,fun I=>?_⟩;obtain⟨b,o,rfl,j,hr⟩:=h4 I;exact⟨b,o,rfl,by omega,hr.block (hk b rfl j)⟩
theorem cU.jc{w:World}{B:Nat}{v:Value}{l:List bl}(h:cU w B v l):l.length≤4294967296:=by obtain⟨j,cap,_,I,J,_⟩:=h;omega
def aG:Value→List Nat|.slice (some a) _ _=>[a.block]|_=>[]
def an:Value→List Nat|.agg j=>j.toList.flatMap aG|v=>aG v
structure iB(lo:Nat)(w:World)(v:Value):Prop where
 lo:∀b∈an v,lo≤b
 hi:∀b∈an v,b<w.heap.size
 free:∀b∈an v,∀j,w.frozen? ⟨b,j,none⟩=false
 nodup:(an v).Nodup
structure aw(w w':World)(l:List Nat):Prop where
 os:w'.os=w.os
 tape:w'.tape=w.tape
 output:w'.output=w.output
 size:w.heap.size≤w'.heap.size
 block:∀b,b<w.heap.size→b∉l→w'.heap[b]?=w.heap[b]?
theorem aw.refl(w:World):aw w w []:=⟨rfl,rfl,rfl,Nat.le_refl _,fun _ _ _=>rfl⟩
theorem ak{w w':World}(h:Below w.heap.size w w'):aw w w' []:=⟨h.os,h.tape,h.output,h.size,fun b j _=>h.block b j⟩
theorem aw.trans{a b c:World}{l l':List Nat}(h:aw a b l)(j:aw b c l'):aw a c (l++l'):=⟨j.os.trans h.os,j.tape.trans h.tape,j.output.trans h.output,Nat.le_trans h.size j.size,fun k J I=>by rw[List.mem_append,not_or]at I;exact(j.block k (Nat.lt_of_lt_of_le J h.size) I.2).trans (h.block k J I.1)⟩
theorem aw.then{a b c:World}{l:List Nat}(h:aw a b l)(j:Below b.heap.size b c):aw a c l:=by have:=h.trans (ak j);rwa[List.append_nil]at this
theorem aw.drew{a b:World}{l:List Nat}(h:aw a b l):aw a b.drew l:=⟨h.os,h.tape,h.output,h.size,h.block⟩
theorem aw.below{w w':World}{l:List Nat}(h:aw w w' l){B:Nat}(j:B≤w.heap.size)(J:∀b∈l,B≤b):Below B w w':=⟨h.os,h.tape,h.output,h.size,fun k I=>h.block k (Nat.lt_of_lt_of_le I j) (fun R=>absurd (J k R) (by omega))⟩
theorem aw.cell{w w':World}{l:List Nat}(h:aw w w' l){b o:Nat}{x:Value}(j:w.cell? ⟨b,o,none⟩=some x)(I:∀k∈l,b<k):w'.cell? ⟨b,o,none⟩=some x:=(World.cell?_of_block (a:=⟨b,o,none⟩) (h.block b (World.block_lt_of_cell? w _ j) (fun J=>absurd (I b J) (by omega)))).trans j
theorem aw.grown{w w':World}{b:Nat}(h:w.grownBy w' (some b)):aw w w' [b]:=⟨h.os,h.tape,h.output,h.size,fun k j l=>h.block k j (fun e=>l (by simp at e;simp[e]))⟩
theorem aw.kY{w w':World}(h:w.grownBy w' none):aw w w' []:=⟨h.os,h.tape,h.output,h.size,fun k j _=>h.block k j (by simp)⟩
theorem aE{w w':World}{p:Option Addr}{n c:Nat}(h:w.grownBy w' (Value.slice p n c).ownBlock):aw w w' (an (.slice p n c)):=by cases p with|none=>exact aw.kY h|some a=>exact aw.grown h
theorem iB.keep{R:Nat}{w w':World}{v:Value}{l:List Nat}(h:iB R w v)(J:aw w w' l)(hd:∀b∈an v,b∉l):iB R w' v:=⟨h.lo,fun b I=>Nat.lt_of_lt_of_le (h.hi b I) J.size,fun b I j=>(World.frozen?_of_block (a:=⟨b,j,none⟩) (J.block b (h.hi b I) (hd b I))).trans (h.free b I j),h.nodup⟩
theorem iB.own{l:Nat}{w:World}{p:Option Addr}{n c:Nat}(h:iB l w (.slice p n c)):FJ l w (.slice p n c):=by cases p with|none=>exact⟨fun b j=>by cases j⟩|some a=>exact⟨fun b j=>by simp[Value.ownBlock]at j;subst j;exact⟨h.lo _ (by simp[an,aG]),h.hi _ (by simp[an,aG]),h.free _ (by simp[an,aG])⟩⟩
theorem bh{v:Value}{p:Option Addr}{n c:Nat}(e:v=.slice p n c){b:Nat}:v.ownBlock=some b↔b∈an v:=by subst e;cases p with|none=>simp[Value.ownBlock,an,aG]|some a=>simp[Value.ownBlock,an,aG];exact⟨fun h=>h.symm,fun h=>h.symm⟩
theorem Ks(n j hi:Int)(w:World):Calls Tryz.prog 59 #[.int .i64 n,.int .i64 j,.int .i64 hi] w fun e w'=>e=.returned (.bool (decide (j≤n)&&decide (n≤hi)))∧w'=w:=by by_cases h:j≤n;all_goals go_enter Tryz.func59,Tryz.ntmps59;go_wp2_with fail;go_ret;refine⟨aF ?_,rfl⟩;simp[*];try omega
section
open Go.RowKit Go.ChangeShapes Go.WideShapes
end
section
section
variable{P:Program}{ops:Array Oper}{md:Region.Mode}{C:World→Prop}
def qx(P:Program)(md:Region.Mode)(ops:Array Oper)(C:World→Prop)(n:Nat)(L:Array Bool→Act→Prop):Nat→Array Bool→Act→Prop|0,listed,a=>L listed a|f+1,listed,a=>Region.ready md ops listed≠[]∧∀i∈Region.ready md ops listed,i<n∧qOp P ops C i (qx P md ops C n L f (listed.setIfInBounds i true)) a
theorem kN{n g:Nat}{L:Array Bool→Act→Prop}{Q':Exit→Act→World→Prop}(I:∀listed a w,C w→L listed a→wpAny P md ops Q' g listed a w):∀(f:Nat)(listed:Array Bool)(a:Act)(w:World),C w→qx P md ops C n L f listed a→wpAny P md ops Q' (f+g) listed a w|0,listed,a,w,j,h=>by rw[Nat.zero_add];exact I _ _ _ j h|f+1,listed,a,w,j,h=>by rw[show f+1+g=(f+g)+1 by omega];exact⟨fun R=>absurd R h.1,fun i hi=>wpOp_of_qOp j (fun a' w' l J=>kN I f _ a' w' l J) (h.2 i hi).2⟩
theorem xj{n i:Nat}{oi:Oper}{v:Value}{L:Array Bool→Act→Prop}(hi:ops[i]?=some oi)(ab:∀(j:Nat)(o:Oper)cs b,ops[j]?=some o→o.op≠.select cs b)(hs:Region.sinkB md ops n=true)(hc:Region.chainB md ops n=true)(hn:n<ops.size)(ag:i<n)(ac:∀listed a,L listed a→∀j∈Region.ready md ops listed,n≤j)(f:Nat):∀(listed:Array Bool)(a:Act),HeadInv md ops n listed→(∀j oj,ops[j]?=some oj→j≠i→listed.getD j true=false→(∀e∈oj.after,Region.binds md e=true→e.on≠i)→oi.apart ops oj=true)→i∈Region.ready md ops listed→YieldsIn P ops C oi v a→qx P md ops C n L f (listed.setIfInBounds i true) (a.put oi.dst v)→qx P md ops C n L (f+1) listed a:=by
 induction f with
  |zero=>
   intro listed a R _ U hy H;refine⟨fun h=>(by rw[h]at U;cases U),fun j hj=>?_⟩;have J:j<n:=Nat.lt_of_not_le fun h=>tail_waits hs hc hn R _ i rfl ag (mem_ready.1 U).1 j h hj;refine⟨J,?_⟩;by_cases l:j=i;·subst l;exact hy.qOp hi H
   ·exact absurd (ac _ _ H j (ready_mono hj l)) (by omega)|succ f ih=>
   intro listed a R I U hy H;refine⟨fun h=>(by rw[h]at U;cases U),fun j hj=>?_⟩;have av:=(mem_ready.1 U).1;have J:j<n:=Nat.lt_of_not_le fun h=>tail_waits hs hc hn R _ i rfl ag av j h hj;refine⟨J,?_⟩;by_cases l:j=i;·subst l;exact hy.qOp hi H
   ·obtain⟨T,oj,ad,af⟩:=mem_ready.1 hj;have ao:∀e∈oj.after,Region.binds md e=true→e.on≠i:=fun e he hb heq=>by have h1:=af e he hb;rw[heq,getD_both av]at h1;cases h1
    have h2:=qOp_put ad (I j oj ad l T ao) (fun cs b=>ab i oi cs b hi) (fun cs b=>ab j oj cs b ad) hy (H.2 j (ready_mono hj l)).2;refine qOp_mono (fun a' h3=>ih (listed.setIfInBounds j true) a' (R.set hj J) (fun k ok hk ay ax az=>?_) (ready_mono U (Ne.symm l)) h3.1 ?_) h2;·
     refine I k ok hk ay ?_ az;by_cases ah:j=k;·subst ah;exact T
     ·rwa[getD_set_ne true ah]at ax
    ·rw[Array.setIfInBounds_comm _ _ l];exact h3.2
theorem uF{n g:Nat}{Lq:Act→Prop}(J:Region.noSelect ops=true)(hs:Region.sinkB md ops n=true)(hc:Region.chainB md ops n=true)(hn:n<ops.size):∀(l:List Oper)(k:Nat)(listed:Array Bool)(a:Act),(∀j,j<l.length→l[j]?=ops[k+j]?)→k+l.length=n→HeadInv md ops n listed→Region.lexHead md ops g l.length k listed=true→wpQuiet P ops C Lq l a→qx P md ops C n (fun I a'=>Region.seqB md ops g n I=true∧Lq a') l.length listed a
 |[],k,listed,a,_,hk,_,R,h=>by
  have e:k=n:=by simpa using hk
  subst e;exact⟨by simpa[Region.lexHead]using R,h⟩|o::l,k,listed,a,hl,hk,U,R,h=>by
  have h0:ops[k]?=some o:=by simpa using(hl 0 (by simp)).symm
  simp only[List.length_cons,Region.lexHead,Bool.and_eq_true]at R;have T:k<n:=by simp only[List.length_cons]at hk;omega
  have hr:k∈Region.ready md ops listed:=by simpa using R.1.1
  obtain⟨v,hy,hK⟩:=yieldsIn_of_qOp h0 (show qOp P ops C k (wpQuiet P ops C Lq l) a by unfold qOp;simp only[h0];exact h);exact xj h0 (Region.noSelect_spec J) hs hc hn T (fun _ _ hL=>seqB_ready hL.1) l.length listed a U (Region.free_spec h0 R.1.2) hr hy (uF J hs hc hn l (k+1) _ _ (fun j hj=>by have:=hl (j+1) (by simp;omega);simpa[Nat.add_assoc,Nat.add_comm 1 j]using this) (by simp only[List.length_cons]at hk;omega) (U.set hr T) R.2 hK)
end
theorem jI{P:Program}{id:Nat}{Q:Exit→Act→World→Prop}{a:Act}{w:World}{l:List Oper}(n:Nat)(hm:P.follows .mixedOrders=true)(hB:Region.lexTailB .any l.toArray n=true)(h:∀W,W=w→wpQuiet P l.toArray (fun w'=>∃g:Grown W,w'=g.val) (fun a'=>∀w',Below W.heap.size W w'→wpList P l.toArray Q (l.drop n) a' w') (l.take n) a):(Code.region id l.toArray true).wp P Q a w:=by
 simp only[Region.lexTailB,Bool.and_eq_true,decide_eq_true_eq]at hB;obtain⟨⟨⟨⟨T,hn⟩,hs⟩,hc⟩,R⟩:=hB;have I:(l.take n).length=n:=by
  have:n<l.length:=by simpa using hn
  simp;omega
 have J:(l.drop n).length=l.toArray.size-n:=by simp
 have U:HeadInv .any l.toArray n (Array.replicate l.toArray.size false):=⟨by simp,fun j oj _ hl=>(by rw[getD_replicate_false]at hl;cases hl),fun t _ ht=>getD_in (by simpa using ht) (getD_replicate_false _ _)⟩;have H:=uF (md:=.any) (C:=fun w'=>∃g:Grown w,w'=g.val) (g:=l.toArray.size-n) T hs hc hn (l.take n) 0 _ a (fun j hj=>by
  have ab:j<n:=by rw[I]at hj;exact hj
  simp[ab]) (by simpa using I) U (by rw[I];exact R) (h w rfl);refine wp_region_any hm ?_;have K:=kN (Q':=Q) (g:=l.toArray.size-n) (fun listed a' w' hw hL=>by obtain⟨g,rfl⟩:=hw;have:=wpAny_of_seq (md:=.any) (Q':=Q) (l.drop n) n listed a' g.val (fun j=>by simp[List.getElem?_drop]) (by rw[J];exact hL.1) (hL.2 _ g.dN);rwa[J]at this) _ _ _ {w with drawn:=w.drawn+1} ⟨⟨_,(Below.refl _ _).drew⟩,rfl⟩ H;rw[I,show n+(l.toArray.size-n)=l.toArray.size by omega]at K;exact K
end
theorem CE(n:Int)(w:World)(j:-9223372036854775808≤n)(l:n≤9223372036854775807):Calls Tryz.prog 122 #[.int .i64 n] w fun e w'=>e=.returned (.int .u64 (dC n:Int))∧w'=w:=by
 by_cases h:n<0;·go_enter Tryz.func122,Tryz.ntmps122;go_wp2;go_ret;exact⟨aU (BN (by omega)),rfl⟩
 ·go_enter Tryz.func122,Tryz.ntmps122;go_wp2;go_ret;exact⟨aU (uB (by omega)),rfl⟩
theorem BZ(n:Int)(w:World)(j:-9223372036854775808≤n)(l:n≤9223372036854775807):Calls Tryz.prog 79 #[.int .i64 n] w fun e w'=>e=.returned (.int .u64 (dC n:Int))∧w'=w:=by
 by_cases h:n<0;·go_enter Tryz.func79,Tryz.ntmps79;go_wp2;go_ret;exact⟨aU (DF (by omega) (by omega)).symm,rfl⟩
 ·go_enter Tryz.func79,Tryz.ntmps79;go_wp2;go_ret;exact⟨aU (y7 (by omega)),rfl⟩
theorem zF(w:World)(b:Nat)(k:Nat)(J:k<10):(Instr.sliceAt 123 (.pointer (some ⟨b,0,none⟩)) none (some (.int .i64 ((k:Int)+1))) none).run Tryz.prog w=.ok (.slice (some ⟨b,0,none⟩) (k+1) 10) w:=by
 have l:Tryz.prog.underlying 123=some (.array (Tryz.prog.arrayLen 123) (Tryz.prog.elem 123)):=by kernel_rfl
 have j:Tryz.prog.arrayLen 123=10:=by kernel_rfl
 have I:∀w,(sizeOf (Tryz.prog.elem 123)).run Tryz.prog w=.ok 1 w:=fun w=>by kernel_rfl
 rw[run_sliceAt_array_h w 123 _ l .i64 ((k:Int)+1) (by omega) (by rw[j];omega),I,j];have e:((k:Int)+1).toNat=k+1:=by omega
 simp only[slicedAt,Result.andThen,e];rfl
def C4(u k:Nat)(j:Array Value):Prop:=j.size=10∧∀i,i<k→j[i]?=some (.int .u8 ((As u i).toNat:Int))
theorem C4.store{u k:Nat}{j:Array Value}(h:C4 u k j)(l:k<10){x:Int}(I:x=((As u k).toNat:Int)):C4 u (k+1) (j.setIfInBounds k (.int .u8 x)):=by
 refine⟨by simpa using h.1,fun i hi=>?_⟩;rw[Array.getElem?_setIfInBounds];by_cases e:k=i;·subst e;rw[if_pos rfl,if_pos (by rw[h.1];exact l),I]
 ·rw[if_neg e];exact h.2 i (by omega)
theorem BF{u k:Nat}{l:Array Value}(w:World)(h:C4 u k l)(T:k<10){x:Int}(U:x=((nt u k).toNat:Int)):(convert 22 9 (.slice (some ⟨w.heap.size,0,none⟩) (k+1) 10)).run Tryz.prog (w.alloc (.cells (l.setIfInBounds k (.int .u8 x)) 123))=.ok (.string ⟨(rh u k).toArray⟩) (w.alloc (.cells (l.setIfInBounds k (.int .u8 x)) 123)):=by
 have e:=run_convert_bytes_back (P:=Tryz.prog) (w.alloc (.cells (l.setIfInBounds k (.int .u8 x)) 123)) 22 9 5 ⟨w.heap.size,0,none⟩ 10 (rh u k) Tryz.underlying22 Tryz.underlying5 Tryz.underlying9 (fun j R=>by
  rw[eL]at R;have J:(⟨w.heap.size,0,none⟩:Addr).add j=⟨w.heap.size,j,none⟩:=by unfold Addr.add;split<;>simp_all
  rw[J,World.cell?_alloc_at _ _ _ _ rfl,Array.getElem?_setIfInBounds];by_cases I:k=j;·subst I;rw[if_pos rfl,if_pos (by rw[h.1];exact T),U];have:=qe u k;rw[List.getElem?_eq_getElem (by rw[eL];omega)]at this;rw[Option.some.inj this]
  ·rw[if_neg I,h.2 j (by omega)];have:=vJ (u:=u) (k:=k) (i:=j) (by omega);rw[List.getElem?_eq_getElem (by rw[eL];omega)]at this;rw[Option.some.inj this]);rw[eL]at e;exact e
theorem xm(n:Int)(w:World)(h0:-9223372036854775808≤n)(h1:n≤9223372036854775807):Calls Tryz.prog 41 #[.int .i64 n] w fun e w'=>e=.returned (.string (ca n))∧Below w.heap.size w w':=by
 have hU:=pK h0 h1;have HF:Hid (∀w,Calls Tryz.prog 79 #[.int .i64 n] w fun e w'=>e=.returned (.int .u64 (dC n:Int))∧w'=w):=fun w=>BZ n w h0 h1;have HP:Hid (ca n=⟨(kb (dC n)).toArray⟩):=rfl;clear h0 h1;generalize dC n=U at*;go_enter Tryz.func41,Tryz.ntmps41;go_wp2_with(go_at_call 79;refine(HF.out _).mono ?_;rintro e w'⟨rfl,rfl⟩);go_loopw[4,5](fun x i wr=>∃(k v:Nat)(arr:Array Value),k≤9∧v=U/128^k∧i=.int .i64 k∧x=.int .u64 (v:Int)∧C4 U k arr∧(∀i,i<k→128≤U/128^i)∧wr=w.alloc (.cells arr 123))(fun _ i _=>9-(intOf i).toNat);case atStart=>exact⟨0,U,_,by omega,by simp,rfl,rfl,⟨rfl,fun i hi=>absurd hi (by omega)⟩,fun i hi=>absurd hi (by omega),rfl⟩
 case round=>
  obtain⟨k,v,arr,hk,hv,rfl,rfl,R,l,rfl⟩:=hrel;have T:=aa hv;have HR:=aa R;have HA:=aa l;have ab:k=9→v<128:=by intro e;subst e;rw[hv];exact nI hU
  have hV:i7 v:=by rw[hv];exact hU.div k
  clear hv l;by_cases ht:128≤v;·
   have I:k<9:=by omega
   obtain⟨j,hold⟩:∃j,arr[k]?=some j:=⟨_,Array.getElem?_eq_getElem (by rw[R.1];omega)⟩;clear R ab;go_wp2;go_roundw;case rel=>
    refine⟨k+1,v/128,_,by omega,by rw[T.out,kS],by go_num,by go_num,HR.out.store (by omega) ?_,?_,rfl⟩;·rw[Ci v hV,pG,←T.out]
    ·intro i hi;by_cases e:i=k;·subst e;rw[←T.out];exact ht
     ·exact HA.out i (by omega)
   case measure=>simp[intOf];omega
  ·have I:k<10:=by omega
   obtain⟨j,hold⟩:∃j,arr[k]?=some j:=⟨_,Array.getElem?_eq_getElem (by rw[R.1];omega)⟩;have J:U/128^k<128:=by rw[←T.out];omega
   have HL:=aa (rD hk HA.out J);have ad:=fun W=>zF W w.heap.size k I;have ac:=BF w R I (x:=(v:Int)) (by rw[ml J,←T.out]);clear R ab J;go_wp2;go_ret;exact⟨dY (by rw[HP.out,HL.out]),(Below.refl _ _).alloc (Nat.le_refl _) _⟩
theorem Tryz.I8:(Tryz.prog.info? 5).map (fun i=>(i.zero,i.size,i.bytes))=some (some (.int .u8 0),1,1):=by kernel_rfl
theorem Dn{W:World}{base:Nat}{v:Value}{n:Nat}{l:List UInt8}(h:W.ownsRow base 5 1 v n (bv l))(I:n=l.length):(convert 22 9 v).run Tryz.prog W=.ok (.string ⟨l.toArray⟩) W:=by
 rcases h.2 with⟨rfl,T⟩|⟨g,cap,J,rfl,_,U,_,_,_,ht⟩;·
  have:l=[]:=by cases l with|nil=>rfl|cons a b=>simp at I;omega
  subst this;exact run_convert_bytes_nil W 22 5 Tryz.underlying22 Tryz.underlying5 0 0 9 Tryz.underlying9
 ·subst I;refine run_convert_bytes_back (P:=Tryz.prog) W 22 9 5 ⟨g,0,none⟩ cap l Tryz.underlying22 Tryz.underlying5 Tryz.underlying9 (fun j R=>?_);exact h.cells (g:=g) rfl j _ (by simp[bv,R])
theorem FW(l:List UInt8)(b:UInt8):bv (l++[b])=bv l++[Value.int .u8 (b.toNat:Int)]:=by simp[bv]
theorem BH(u k:Nat):(List.range (k+1)).map (As u)=(List.range k).map (As u)++[As u k]:=by simp[List.range_succ]
theorem xY{I:World}{base n:Nat}{j:Value}{l:List UInt8}{b:UInt8}{x:Int}(J:x=(b.toNat:Int))(h:I.ownsRow base 5 1 j (n+1) (bv l++[Value.int .u8 x])):I.ownsRow base 5 1 j (n+1) (bv (l++[b])):=by rw[FW,←J];exact h
theorem oK{B:Nat}{l W I:World}{e:TypeId}{size:Nat}{v:Value}{n:Nat}{xs:List Value}(R:Below B l W)(J:B≤W.heap.size)(o:Obj)(j:(W.alloc o).ownsRow B e size v n xs)(T:(W.alloc o).grownBy I v.ownBlock):Below B l I:=(R.alloc J o).grown T (by simp;omega) (fun k U=>(j.lt k U).1)
theorem yy(n:Int)(w:World)(h0:-9223372036854775808≤n)(h1:n≤9223372036854775807):Calls Tryz.prog 86 #[.int .i64 n] w fun e w'=>e=.returned (.string (ca n))∧Below w.heap.size w w':=by
 have hU:=pK h0 h1;have HF:Hid (∀w,Calls Tryz.prog 122 #[.int .i64 n] w fun e w'=>e=.returned (.int .u64 (dC n:Int))∧w'=w):=fun w=>CE n w h0 h1;have HP:Hid (ca n=⟨(kb (dC n)).toArray⟩):=rfl;clear h0 h1;generalize dC n=U at*;obtain⟨i0,hi,af,ag,ah⟩:=info_parts Tryz.I8;go_enter Tryz.func86,Tryz.ntmps86;go_wp2_with(go_at_call 122;refine(HF.out _).mono ?_;rintro e w1⟨rfl,hw⟩;obtain rfl:w=w1:=hw.symm;clear hw);go_loopw[3,4](fun x b wr=>∃(k v:Nat),k≤9∧v=U/128^k∧x=.int .u64 (v:Int)∧wr.ownsRow w.heap.size 5 1 b k (bv ((List.range k).map (As U)))∧(∀i,i<k→128≤U/128^i)∧Below w.heap.size w wr)(fun x _ _=>(intOf x).toNat);case atStart=>exact⟨0,U,by omega,by simp,rfl,World.ownsRow_made w #[] 0 (Nat.le_refl _) (by simp) (by simp),fun i hi=>absurd hi (by omega),(Below.refl _ _).alloc (Nat.le_refl _) _⟩
 case round=>
  obtain⟨k,v,hk,hv,rfl,J,ab,j⟩:=hrel;have HV:=aa hv;have HA:=aa ab;have ad:k=9→v<128:=by intro e;subst e;rw[hv];exact nI hU
  have hV:i7 v:=by rw[hv];exact hU.div k
  clear hv ab;by_cases ht:128≤v;·
   have av:k<9:=by omega
   have hq:IntKind.u64.wrap ((v:Int)/128)=(v:Int)/128:=by rw[IntKind.wrap_u64];have:=hV.lt;omega
   clear ad;go_wp2_with(at_builtin;refine wpList_append_own _ rfl (.tmp 10) (.tmp 15) 22 rfl w.heap.size 5 i0 (.int .u8 0) 1 1 Tryz.underlying22 hi af ag ah rfl (by decide) _ _ _ rfl (J.alloc _) ⟨wr.heap.size,0,none⟩ 1 1 [.int .u8 ((v:Int)%128+128)] rfl rfl ?c1 ?c2 ?c3 ?c4 ?c5 ?_);case c1=>exact cell_one_new _ _ _
   case c2=>intro u hu;simp at hu;subst hu;rfl
   case c3=>unfold maxLen;omega
   case c4=>omega
   case c5=>have:=j.size;simp;omega
   intro v' w1 I l _;have T:=oK j (by have:=j.size;omega) _ (J.alloc _) l;have R:=xY (b:=As U k) (by rw[pG,←HV.out];omega) I;rw[←BH]at R;clear I l J j;have HO:=aa R;have HB:=aa T;clear R T;go_wp2;go_roundw;case rel=>
    refine⟨k+1,v/128,by omega,by rw[HV.out,kS],by go_num,HO.out,?_,HB.out⟩;intro i hi;by_cases e:i=k;·subst e;rw[←HV.out];exact ht
    ·exact HA.out i (by omega)
   case measure=>simp[intOf];omega
  ·have ac:U/128^k<128:=by rw[←HV.out];omega
   have HL:=aa (rD hk HA.out ac);have HT:=aa ac;have hm:(v:Int)%256=(v:Int):=by omega
   clear ad ac;go_wp2_with(at_builtin;refine wpList_append_own _ rfl (.tmp 19) (.tmp 22) 22 rfl w.heap.size 5 i0 (.int .u8 0) 1 1 Tryz.underlying22 hi af ag ah rfl (by decide) _ _ _ rfl (J.alloc _) ⟨wr.heap.size,0,none⟩ 1 1 [.int .u8 (v:Int)] rfl rfl ?c1 ?c2 ?c3 ?c4 ?c5 ?_);case c1=>exact cell_one_new _ _ _
   case c2=>intro u hu;simp at hu;subst hu;rfl
   case c3=>unfold maxLen;omega
   case c4=>omega
   case c5=>have:=j.size;simp;omega
   intro v' w1 I l _;have T:=oK j (by have:=j.size;omega) _ (J.alloc _) l;have R:=xY (b:=nt U k) (by rw[ml HT.out,←HV.out]) I;have ao:=Dn R (by simp);have HB:=aa T;clear I l J j R T;go_wp2;go_ret;exact⟨dY (by rw[HP.out,HL.out];rfl),HB.out⟩
def iP(s:ByteArray)(i:Nat):Nat:=if h:i<s.size then s[i].toNat else 0
theorem nC{s:ByteArray}{i:Nat}(h:i<s.size):iP s i=s[i].toNat:=by simp[iP,h]
theorem FV(s:ByteArray)(i:Nat):iP s i<256:=by
 unfold iP;split;·exact UInt8.toNat_lt _
 ·omega
def jk(s:ByteArray)(a:Nat):Nat→Nat|0=>0|k+1=>jk s a k+iP s (a+k)%128*128^k
theorem qj(s:ByteArray)(a:Nat):∀k,jk s a k<128^k
 |0=>by simp[jk]|k+1=>by
  have ih:=qj s a k;have j:iP s (a+k)%128≤127:=by omega
  have:=Nat.mul_le_mul_right (128^k) j;rw[jk,Nat.pow_succ];omega
def cO(u:Nat):Int:=if u%2=1 then-((u/2:Nat):Int)-1 else((u/2:Nat):Int)
def fw(s:ByteArray)(a:Nat):Nat→Nat→Int×Int×Int|0,_=>(0,0,3)|f+1,k=>if s.size≤a+k then(0,0,4)else if k=9∧1<iP s (a+k)then(0,0,3)else if iP s (a+k)<128 then(if iP s (a+k)=0∧0<k then(0,0,3)else(cO (jk s a (k+1)),((a+k+1:Nat):Int),0))else fw s a f (k+1)
def aY(s:ByteArray)(j:Int):Int×Int×Int:=if 8000<s.size then(0,0,2)else if j<0 then(0,0,1)else fw s j.toNat 10 0
theorem nM{s:ByteArray}{a f k:Nat}(h:s.size≤a+k):fw s a (f+1) k=(0,0,4):=by rw[fw,if_pos h]
theorem xe{s:ByteArray}{a f k:Nat}(h:¬s.size≤a+k)(j:k=9)(l:1<iP s (a+k)):fw s a (f+1) k=(0,0,3):=by rw[fw,if_neg h,if_pos ⟨j,l⟩]
theorem km{s:ByteArray}{a f k:Nat}(h:¬s.size≤a+k)(j:¬(k=9∧1<iP s (a+k)))(l:iP s (a+k)<128):fw s a (f+1) k=if iP s (a+k)=0∧0<k then(0,0,3)else(cO (jk s a (k+1)),((a+k+1:Nat):Int),0):=by rw[fw,if_neg h,if_neg j,if_pos l]
theorem mN{s:ByteArray}{a f k:Nat}(h:¬s.size≤a+k)(j:¬k=9)(l:¬iP s (a+k)<128):fw s a (f+1) k=fw s a f (k+1):=by rw[fw,if_neg h,if_neg (fun x=>j x.1),if_neg l]
theorem Jj(k:Nat):(2:Nat)^(7*k)=128^k:=by rw[Nat.pow_mul]
theorem lF{s:ByteArray}{a k:Nat}(J:k≤9)(l:¬(k=9∧1<iP s (a+k))):i7 (jk s a (k+1)):=by
 by_cases e:k=9;·
  subst e;have h:=qj s a 9;have I:iP s (a+9)≤1:=by omega
  have j:(128:Nat)^9=9223372036854775808:=by decide
  unfold i7;rw[jk];rw[j]at h⊢;omega
 ·have h:=qj s a (k+1);have:(128:Nat)^(k+1)≤128^9:=Nat.pow_le_pow_right (by omega) (by omega);have j:(128:Nat)^9=9223372036854775808:=by decide
  unfold i7;omega
theorem Ex{U k d:Nat}(j:U<128^k)(hu:i7 (U+d*128^k)):bits .or .u64 (U:Int) ((d*128^k:Nat):Int)=((U+d*128^k:Nat):Int):=by have h:=hu.lt;rw[bits_or_u64_nat U (d*128^k) (by omega) (by omega)];rw[←Jj]at*;rw[Nat.or_comm,Nat.mul_comm d,←Nat.two_pow_add_eq_or_of_lt j d];congr 1;omega
theorem aw.bN{w w':World}{l:List Nat}(h:aw w w' l){b o:Nat}{x:Value}(j:w.cell? ⟨b,o,none⟩=some x)(I:b∉l):w'.cell? ⟨b,o,none⟩=some x:=(World.cell?_of_block (a:=⟨b,o,none⟩) (h.block b (World.block_lt_of_cell? w _ j) I)).trans j
theorem aw.eB{w w':World}{l:List Nat}(h:aw w w' l){b o:Nat}{x:Bool}(j:b<w.heap.size)(I:w.frozen? ⟨b,o,none⟩=x)(J:b∉l):w'.frozen? ⟨b,o,none⟩=x:=(World.frozen?_of_block (a:=⟨b,o,none⟩) (h.block b j J)).trans I
theorem aw.qk{w w':World}{l:List Nat}(h:aw w w' []):aw w w' l:=⟨h.os,h.tape,h.output,h.size,fun b j _=>h.block b j (by simp)⟩
theorem aw.same{w w':World}{b:Nat}(h:aw w w' ([b]++[b])):aw w w' [b]:=⟨h.os,h.tape,h.output,h.size,fun k l j=>h.block k l (by simp at j;simp[j])⟩
theorem aw.setCell{w w':World}{b:Nat}(h:aw w w' [b])(o:Nat)(x:Value):aw w (w'.setCell ⟨b,o,none⟩ x) [b]:=⟨h.os,h.tape,h.output,by simp;exact h.size,fun k l j=>(Below.heap_setCell w' ⟨b,o,none⟩ x k (fun e=>j (by simp[e]))).trans (h.block k l j)⟩
theorem eE{α β:Type}(f:α→List β)(n:Nat)(I:∀x,(f x).length=n):∀(l:List α)(j:Nat)(J:j<l.length)(i:Nat),i<n→(l.flatMap f)[j*n+i]?=(f l[j])[i]?|x::l,0,_,i,hi=>by rw[List.flatMap_cons,List.getElem?_append_left (by rw[I];omega)];simp|x::l,j+1,J,i,hi=>by rw[List.flatMap_cons,List.getElem?_append_right (by rw[I,Nat.succ_mul];omega),I,show(j+1)*n+i-n=j*n+i by rw[Nat.succ_mul];omega];exact eE f n I l j (by simpa using J) i hi
theorem eT{α β:Type}(f:α→List β)(n:Nat)(j:∀x,(f x).length=n):∀(l:List α),(l.flatMap f).length=l.length*n|[]=>by simp|x::l=>by rw[List.flatMap_cons,List.length_append,j,eT f n j l,List.length_cons,Nat.succ_mul,Nat.add_comm]
theorem bF{w:World}{base e size n:Nat}{v:Value}{U:List Value}(h:w.ownsRow base e size v n U){g c:Nat}(T:v=.slice (some ⟨g,0,none⟩) n c)(k:Nat)(x:Value)(J:U[k]?=some x):w.cell? ⟨g,k,none⟩=some x:=by
 obtain⟨hl,hh⟩:=h;rcases hh with⟨rfl,_⟩|⟨g',cap,ab,rfl,_,l,_,_,_,I⟩;·cases T
 ·injection T with j _ h3;injection j with j;injection j with j;subst j;have R:k<n*size:=by rw[←hl];exact(List.getElem?_eq_some_iff.1 J).1
  rw[←I,List.getElem?_take,if_pos R]at J;simp only[World.cell?,l];simpa using J
theorem au{w:World}{base e size n:Nat}{v:Value}{U:List Value}(h:w.ownsRow base e size v n U):iB base w v:=by
 obtain⟨_,T⟩:=h;rcases T with⟨rfl,_⟩|⟨g,cap,J,rfl,R,l,_⟩;·exact⟨by simp[an,aG],by simp[an,aG],by simp[an,aG],by simp[an,aG]⟩
 ·refine⟨by simp[an,aG];exact R,by simp[an,aG];exact(Array.getElem?_eq_some_iff.1 l).1,?_,by simp[an,aG]⟩;intro b I j;simp[an,aG]at I;subst I;simp[World.frozen?,l]
theorem aq{w:World}{base e size n:Nat}{v:Value}{J:List Value}(h:w.ownsRow base e size v n J):∃p c,v=.slice p n c:=by
 obtain⟨_,I⟩:=h;rcases I with⟨rfl,l⟩|⟨R,cap,j,rfl,_⟩;·exact⟨none,0,by rw[l]⟩
 ·exact⟨_,_,rfl⟩
theorem ky(w:World)(base e size:Nat):w.ownsRow base e size (.slice none 0 0) 0 []:=⟨by simp,.inl ⟨rfl,rfl⟩⟩
theorem dJ(w:World)(base e size g:Nat)(l:base≤g)(j:w.heap[g]?=some (.cells #[] e (0,0))):w.ownsRow base e size (.slice (some ⟨g,0,none⟩) 0 0) 0 []:=⟨by simp,.inr ⟨g,0,#[],rfl,l,j,Nat.le_refl _,by simp[maxLen],by simp,by simp⟩⟩
theorem aJ{w w':World}{base e size n:Nat}{v:Value}{R:List Value}{l:List Nat}(h:w.ownsRow base e size v n R)(T:aw w w' l)(hd:∀b∈an v,b∉l):w'.ownsRow base e size v n R:=by
 obtain⟨hl,J⟩:=h;refine⟨hl,?_⟩;rcases J with J|⟨g,cap,I,rfl,U,j,hr⟩;·exact .inl J
 ·exact .inr ⟨g,cap,I,rfl,U,(T.block g (Array.getElem?_eq_some_iff.1 j).1 (hd g (by simp[an,aG]))).trans j,hr⟩
theorem aL{w w':World}{base e size n:Nat}{v:Value}{j:List Value}(h:w.ownsRow base e size v n j)(l:Below w.heap.size w w'):w'.ownsRow base e size v n j:=aJ h (ak l) (fun _ _=>by simp)
section
open Go.RowKit Go.ChangeShapes Go.WideShapes
def FL(w:World)(b o:Nat)(l:List Int):Prop:=∀j(h:j<l.length),w.cell? ⟨b,o+j,none⟩=some (.int .i64 l[j])
theorem FL.carry{w w':World}{b B o:Nat}{l:List Int}(h:FL w b o l)(I:b<B)(J:Below B w w'):FL w' b o l:=fun j R=>(J.cell (p:=⟨b,o+j,none⟩) I).trans (h j R)
def lS(w:World)(B:Nat)(v:Value)(l:List Int):Prop:=∃j cap,v=.slice j l.length cap∧l.length≤cap∧l.length≤4294967296∧(l≠[]→∃b o,j=some ⟨b,o,none⟩∧b<B∧FL w b o l)
theorem lS.carry{w w':World}{B:Nat}{v:Value}{l:List Int}(h:lS w B v l)(hb:Below B w w'):lS w' B v l:=by obtain⟨J,cap,R,T,U,h4⟩:=h;refine⟨J,cap,R,T,U,fun I=>?_⟩;obtain⟨b,o,e,j,hr⟩:=h4 I;exact⟨b,o,e,j,hr.carry j hb⟩
theorem lS.up{w:World}{B I:Nat}{v:Value}{l:List Int}(h:lS w B v l)(hB:B≤I):lS w I v l:=by obtain⟨J,cap,R,T,U,h4⟩:=h;refine⟨J,cap,R,T,U,fun j=>?_⟩;obtain⟨b,o,e,ab,hr⟩:=h4 j;exact⟨b,o,e,by omega,hr⟩
theorem lS.on{w w':World}{v:Value}{l:List Int}(h:lS w w.heap.size v l)(j:Below w.heap.size w w'):lS w' w'.heap.size v l:=(h.carry j).up j.size
theorem lS.shape{w:World}{B:Nat}{v:Value}{l:List Int}(h:lS w B v l):∃p c,v=.slice p l.length c:=by obtain⟨j,cap,I,_⟩:=h;exact⟨j,cap,I⟩
theorem Tryz.Gj:(Tryz.prog.info? 2).map (fun i=>(i.zero,i.size,i.bytes))=some (some (.int .i64 0),1,8):=by kernel_rfl
end
section
theorem tK{P:Program}{c:Code}{Q:Exit→Act→World→Prop}{a:Act}{w:World}(h:∀W,W=w→c.wp P Q a W):c.wp P Q a w:=h w rfl
section
variable{P:Program}{ops:Array Oper}{md:Region.Mode}{C:World→Prop}
def vO(md:Region.Mode)(ops:Array Oper)(n:Nat):Bool:=(List.range n).all fun i=>i==0||(List.range (n+1)).any fun j=>decide (i<j)&&Region.waitsFor md ops j i
theorem qV{n:Nat}{l:Array Bool}(hs:vO md ops n=true)(hc:Region.chainB md ops n=true)(hn:n<ops.size)(ab:HeadInv md ops n l):∀(d i:Nat),n-i=d→0<i→i<n→l.getD i true=false→∀t,n≤t→t∉Region.ready md ops l:=by
 intro d;induction d using Nat.strongRecOn with
  |_ d ih=>
   intro i hd az hi ag t ht hr;obtain⟨_,ot,U,T⟩:=mem_ready.1 hr;have af:t<ops.size:=(Array.getElem?_eq_some_iff.1 U).1;by_cases ax:t=n;·
    subst ax;have I:=List.all_eq_true.1 hs i (List.mem_range.2 hi);rw[Bool.or_eq_true]at I;rcases I with I|I;·simp at I;omega
    obtain⟨j,hj,ac⟩:=List.any_eq_true.1 I;simp only[Bool.and_eq_true,decide_eq_true_eq]at ac;obtain⟨oj,ad,e,he,hb,J⟩:=Region.waitsFor_spec ac.2;have ay:j≤t:=by have:=List.mem_range.1 hj;omega
    by_cases ao:j=t;·subst ao;have:oj=ot:=Option.some.inj (ad.symm.trans U);subst this;have R:=T e he hb;rw[J,getD_both ag]at R;cases R
    ·cases hl:l.getD j false with
      |true=>have R:=ab.closed j oj ad hl e he hb;rw[J,getD_both ag]at R;cases R|false=>
       have ah:j<l.size:=by rw[ab.size];omega
       exact ih (t-j) (by omega) j rfl (by omega) (by omega) (getD_in ah hl) t (Nat.le_refl _) hr
   ·have I:=List.all_eq_true.1 hc t (List.mem_range.2 af);simp only[Bool.or_eq_true,decide_eq_true_eq]at I;rcases I with I|I;·omega
    ·obtain⟨o',av,e,he,hb,J⟩:=Region.waitsFor_spec I;have:o'=ot:=Option.some.inj (av.symm.trans U);subst this;have R:=T e he hb;rw[J,getD_both (ab.tail (t-1) (by omega) (by omega))]at R;cases R
theorem vw{n i:Nat}{oi:Oper}{v:Value}{L:Array Bool→Act→Prop}(hi:ops[i]?=some oi)(ab:∀(j:Nat)(o:Oper)cs b,ops[j]?=some o→o.op≠.select cs b)(hs:vO md ops n=true)(hc:Region.chainB md ops n=true)(hn:n<ops.size)(ag:0<i)(ah:i<n)(ac:∀listed a,L listed a→∀j∈Region.ready md ops listed,n≤j)(f:Nat):∀(listed:Array Bool)(a:Act),HeadInv md ops n listed→(∀j oj,ops[j]?=some oj→j≠i→listed.getD j true=false→(∀e∈oj.after,Region.binds md e=true→e.on≠i)→oi.apart ops oj=true)→i∈Region.ready md ops listed→YieldsIn P ops C oi v a→qx P md ops C n L f (listed.setIfInBounds i true) (a.put oi.dst v)→qx P md ops C n L (f+1) listed a:=by
 induction f with
  |zero=>
   intro listed a R _ U hy H;refine⟨fun h=>(by rw[h]at U;cases U),fun j hj=>?_⟩;have J:j<n:=Nat.lt_of_not_le fun h=>qV hs hc hn R _ i rfl ag ah (mem_ready.1 U).1 j h hj;refine⟨J,?_⟩;by_cases l:j=i;·subst l;exact hy.qOp hi H
   ·exact absurd (ac _ _ H j (ready_mono hj l)) (by omega)|succ f ih=>
   intro listed a R I U hy H;refine⟨fun h=>(by rw[h]at U;cases U),fun j hj=>?_⟩;have ax:=(mem_ready.1 U).1;have J:j<n:=Nat.lt_of_not_le fun h=>qV hs hc hn R _ i rfl ag ah ax j h hj;refine⟨J,?_⟩;by_cases l:j=i;·subst l;exact hy.qOp hi H
   ·obtain⟨T,oj,ad,af⟩:=mem_ready.1 hj;have av:∀e∈oj.after,Region.binds md e=true→e.on≠i:=fun e he hb heq=>by have h1:=af e he hb;rw[heq,getD_both ax]at h1;cases h1
    have h2:=qOp_put ad (I j oj ad l T av) (fun cs b=>ab i oi cs b hi) (fun cs b=>ab j oj cs b ad) hy (H.2 j (ready_mono hj l)).2;refine qOp_mono (fun a' h3=>ih (listed.setIfInBounds j true) a' (R.set hj J) (fun k ok hk az ay a0=>?_) (ready_mono U (Ne.symm l)) h3.1 ?_) h2;·
     refine I k ok hk az ?_ a0;by_cases ao:j=k;·subst ao;exact T
     ·rwa[getD_set_ne true ao]at ay
    ·rw[Array.setIfInBounds_comm _ _ l];exact h3.2
theorem sG{n g:Nat}{Lq:Act→Prop}(J:Region.noSelect ops=true)(hs:vO md ops n=true)(hc:Region.chainB md ops n=true)(hn:n<ops.size):∀(l:List Oper)(k:Nat)(listed:Array Bool)(a:Act),0<k→(∀j,j<l.length→l[j]?=ops[k+j]?)→k+l.length=n→HeadInv md ops n listed→Region.lexHead md ops g l.length k listed=true→wpQuiet P ops C Lq l a→qx P md ops C n (fun I a'=>Region.seqB md ops g n I=true∧Lq a') l.length listed a
 |[],k,listed,a,_,_,hk,_,R,h=>by
  have e:k=n:=by simpa using hk
  subst e;exact⟨by simpa[Region.lexHead]using R,h⟩|o::l,k,listed,a,ab,hl,hk,U,R,h=>by
  have h0:ops[k]?=some o:=by simpa using(hl 0 (by simp)).symm
  simp only[List.length_cons,Region.lexHead,Bool.and_eq_true]at R;have T:k<n:=by simp only[List.length_cons]at hk;omega
  have hr:k∈Region.ready md ops listed:=by simpa using R.1.1
  obtain⟨v,hy,hK⟩:=yieldsIn_of_qOp h0 (show qOp P ops C k (wpQuiet P ops C Lq l) a by unfold qOp;simp only[h0];exact h);exact vw h0 (Region.noSelect_spec J) hs hc hn ab T (fun _ _ hL=>seqB_ready hL.1) l.length listed a U (Region.free_spec h0 R.1.2) hr hy (sG J hs hc hn l (k+1) _ _ (by omega) (fun j hj=>by have:=hl (j+1) (by simp;omega);simpa[Nat.add_assoc,Nat.add_comm 1 j]using this) (by simp only[List.length_cons]at hk;omega) (U.set hr T) R.2 hK)
end
def Fk(ops:Array Oper)(n:Nat):Bool:=Region.noSelect ops&&decide (n+1<ops.size)&&vO .any ops (n+1)&&Region.chainB .any ops (n+1)&&(Region.ready .any ops (Array.replicate ops.size false)).contains 0&&Region.free .any ops (Array.replicate ops.size false) 0&&Region.lexHead .any ops (ops.size-(n+1)) n 1 ((Array.replicate ops.size false).setIfInBounds 0 true)
theorem iU{P:Program}{id:Nat}{Q:Exit→Act→World→Prop}{a:Act}{w:World}{I:Oper}{l:List Oper}(n:Nat)(x:Operand)(v0:Value)(a0:a.eval x=v0)(ay:I.op=.move x)(hg:I.guard=none)(hm:P.follows .mixedOrders=true)(hB:Fk (I::l).toArray n=true)(ao:∀c v a w,Q (.panic c) (a.put I.dst v) w→Q (.panic c) a w)(h:∀W,W=w→wpQuiet P (I::l).toArray (fun w'=>∃g:Grown W,w'=g.val) (fun a'=>∀w',Below W.heap.size W w'→wpList P (I::l).toArray Q (l.drop n) a' w') (l.take n) (a.put I.dst v0)):(Code.region id (I::l).toArray true).wp P Q a w:=by
 subst a0;simp only[Fk,Bool.and_eq_true,decide_eq_true_eq]at hB;obtain⟨⟨⟨⟨⟨⟨R,hn⟩,hs⟩,hc⟩,ad⟩,av⟩,ac⟩:=hB;have a1:n<l.length:=by simp at hn;exact hn
 have J:(l.take n).length=n:=by simp;omega
 have ab:(l.drop n).length=(I::l).toArray.size-(n+1):=by simp
 have ah:(I::l).toArray[0]?=some I:=by simp
 have af:0∈Region.ready .any (I::l).toArray (Array.replicate (I::l).toArray.size false):=by simpa using ad
 have U:HeadInv .any (I::l).toArray (n+1) (Array.replicate (I::l).toArray.size false):=⟨by simp,fun j oj _ hl=>(by rw[getD_replicate_false]at hl;cases hl),fun t _ ht=>getD_in (by simpa using ht) (getD_replicate_false _ _)⟩;have ag:=U.set af (by omega);have H:=sG (md:=.any) (C:=fun w'=>∃g:Grown w,w'=g.val) (g:=(I::l).toArray.size-(n+1)) R hs hc hn (l.take n) 1 _ _ (by omega) (fun j hj=>by
  have ax:j<n:=by rw[J]at hj;exact hj
  simp[ax,Nat.add_comm 1 j]) (by rw[J];omega) ag (by rw[J];exact ac) (h w rfl);refine wp_region_any hm ?_;have K:=kN (Q':=Q) (g:=(I::l).toArray.size-(n+1)) (fun listed a' w' hw hL=>by obtain⟨g,rfl⟩:=hw;have:=wpAny_of_seq (md:=.any) (Q':=Q) (l.drop n) (n+1) listed a' g.val (fun j=>by rw[List.getElem?_drop,show n+1+j=(n+j)+1 by omega];simp) (by rw[ab];exact hL.1) (hL.2 _ g.dN);rwa[ab]at this) _ _ _ {w with drawn:=w.drawn+1} ⟨⟨_,(Below.refl _ _).drew⟩,rfl⟩ H;have az:(I::l).toArray.size=(l.take n).length+((I::l).toArray.size-(n+1))+1:=by rw[J];simp;omega
 have T:=wpAny_take (md:=.any) (Q:=Q) (v:=a.eval x) ah R av ad (fun c a w=>ao c _ a w) (.inl ⟨by unfold Region.wanted;rw[hg],fun w=>by simp[execOp,ay]⟩) K;rw[←az]at T;exact T
end
theorem cU.sep{w w':World}{v:Value}{x:List bl}{l:List Nat}(h:cU w w.heap.size v x)(I:aw w w' l)(hd:∀b∈an v,b∉l):cU w' w'.heap.size v x:=by have H:=h;obtain⟨a1,R,rfl,_⟩:=h;exact H.keep I.size (fun b J j=>I.block b j (hd b ((bh rfl).1 J)))
theorem cU.sA{w w':World}{v:Value}{x:List bl}{l:List Nat}(h:cU w w.heap.size v x)(I:aw w w' l)(hd:∀b∈l,w.heap.size≤b):cU w' w'.heap.size v x:=by have H:=h;obtain⟨a1,R,rfl,_⟩:=h;exact H.keep I.size (fun b T j=>I.block b j (fun J=>absurd (hd b J) (by omega)))
theorem cU.shape{w:World}{B:Nat}{v:Value}{x:List bl}(h:cU w B v x):∃p c,v=.slice p x.length c:=by obtain⟨a1,j,e,_⟩:=h;exact⟨a1,j,e⟩
section
open Go.RowKit Go.Maps
def ic(f:Int)(a:bl):Value:=.agg #[.int .i64 f,.int .i64 a.kind,.string a.peer,.string a.label,.int .i64 a.sort]
def nN(z:Int):Prop:=-9223372036854775808≤z∧z≤9223372036854775807
def bl.vZ(a:bl):Prop:=nN a.kind∧nN a.sort
theorem vx{z:Int}(h:nN z):(Lit.int .i64 z).wf=true:=by simp[Lit.wf,IntKind.min,IntKind.max,IntKind.signed,IntKind.bits];exact h
theorem Tryz.DX:laidOutB Tryz.prog=true:=by kernel_rfl
theorem Tryz.Hw:(121:TypeId)<Tryz.prog.types.size:=of_decide_eq_true (by kernel_rfl)
theorem Tryz.nh:Tryz.prog.cellsOf 121=5:=by kernel_rfl
theorem Tryz.rT:Tryz.prog.cellsOf 37=4:=by kernel_rfl
theorem Tryz.sI:Tryz.prog.cellsOf 2=1:=by kernel_rfl
theorem Tryz.strCells:Tryz.prog.cellsOf 9=1:=by kernel_rfl
theorem Tryz.Fo:Tryz.prog.keyType 121=true:=by kernel_rfl
theorem dk:Keyed Tryz.prog 121:=Keyed.of_law (deep_law_laid Tryz.DX (m:=4) (by omega) Tryz.Hw (by kernel_rfl) (by kernel_rfl))
theorem Tryz.Fq:2<Tryz.prog.types.size:=of_decide_eq_true (by kernel_rfl)
theorem Tryz.u6:∃d,Tryz.prog.types.size+1=d+3:=by have h:=Tryz.Fq;generalize Tryz.prog.types.size=n at h;exact⟨n-2,by omega⟩
theorem tG(f:Int)(a:bl)(U:nN f)(I:a.vZ)(l:a.ok):∃kl,keyOf Tryz.prog 121 (ic f a)=some kl:=by
 obtain⟨d,hd⟩:=Tryz.u6;have J:=vx U;have R:=vx I.1;have T:=vx I.2;have j:(ic f a).formed Tryz.prog 121=true:=by simp[Value.formed,ic,Tryz.underlying121,Tryz.nh]
 unfold keyOf;rw[Tryz.underlying121];simp only[];rw[if_pos (by rw[Tryz.Fo,j];rfl),hd];simp+decide[Program.keyLits,ic,Value.cells,Tryz.underlying121,Tryz.underlying2,Tryz.underlying37,Tryz.underlying9,Tryz.nh,Tryz.rT,Tryz.sI,Tryz.strCells,J,R,T,l.1,l.2]
end
def eO(s:ByteArray):ByteArray:=if s.size≤8000 then dr [ca (s.size:Int),s]else ByteArray.empty
theorem ng{s:ByteArray}(h:s.size≤8000):eO s=dr [ca (s.size:Int),s]:=if_pos h
theorem yE{s:ByteArray}(h:8000<s.size):eO s=ByteArray.empty:=if_neg (by omega)
theorem ff(n:Int):(ca n).size≤10:=(x8 _).2
theorem sQ(a b:ByteArray):dr [a,b]=a++b:=by apply ByteArray.ext;simp[dr,il]
theorem Jb(x y:ByteArray)(b cap:Nat)(w:World)(J:b<w.heap.size)(j:w.cell? ⟨b,0,none⟩=some (.string x))(l:w.cell? ⟨b,1,none⟩=some (.string y))(I:x.size+y.size≤1000000):Calls Tryz.prog 43 #[.slice (some ⟨b,0,none⟩) 2 cap] w fun e w'=>e=.returned (.string (dr [x,y]))∧Below w.heap.size w w':=sP [x,y] b cap w J (fun i hi=>match i,hi with|0,_=>j|1,_=>l) (by simpa[fT]using I) (by simp)
theorem Ki(x:ByteArray)(b cap:Nat)(w:World)(I:b<w.heap.size)(j:w.cell? ⟨b,0,none⟩=some (.string x))(l:x.size≤1000000):Calls Tryz.prog 43 #[.slice (some ⟨b,0,none⟩) 1 cap] w fun e w'=>e=.returned (.string (dr [x]))∧Below w.heap.size w w':=sP [x] b cap w I (fun i hi=>match i,hi with|0,_=>j) (by simpa[fT]using l) (by simp)
theorem join_one(a:ByteArray):dr [a]=a:=by apply ByteArray.ext;simp[dr,il]
theorem B0(s:ByteArray)(w:World)(U:s.size≤maxLen):Calls Tryz.prog 42 #[.string s] w fun e w'=>e=.returned (.string (eO s))∧Below w.heap.size w w':=by
 unfold maxLen at U;by_cases h:8000<s.size;·have R:=aa (yE h);go_enter Tryz.func42,Tryz.ntmps42;go_wp2_with fail;go_ret;exact⟨dY R.out,Below.refl _ _⟩
 ·have R:=aa (ng (s:=s) (by omega));have T:=aa (ff (s.size:Int));go_enter Tryz.func42,Tryz.ntmps42;go_wp2_with(first|(go_at_call 41;refine(xm _ _ (by omega) (by omega)).mono ?_;rintro e w1⟨rfl,l⟩;have j:=aa l;clear l));refine(Jb (ca (s.size:Int)) s _ _ _ (by simp) ?_ ?_ ?_).mono ?_;·simp
  ·simp
  ·have:=T.out;omega
  rintro e w2⟨rfl,I⟩;have J:=aa I;clear I;go_wp2;go_ret;exact⟨dY R.out,(j.out.alloc j.out.size _).trans (J.out.mono (by simp;have:=j.out.size;omega))⟩
theorem CF(s:ByteArray)(w:World)(J:s.size≤maxLen):Calls Tryz.prog 87 #[.string s] w fun e w'=>e=.returned (.string (eO s))∧Below w.heap.size w w':=by
 unfold maxLen at J;by_cases h:8000<s.size;·have I:=aa (yE h);go_enter Tryz.func87,Tryz.ntmps87;go_wp2_with fail;go_ret;exact⟨dY I.out,Below.refl _ _⟩
 ·have I:=aa (ng (s:=s) (by omega));have R:=ff (s.size:Int);go_enter Tryz.func87,Tryz.ntmps87;go_wp2_with(go_at_call 86;refine(yy _ _ (by omega) (by omega)).mono ?_;rintro e T⟨rfl,j⟩;have l:=aa j;clear j);go_ret;exact⟨dY (by rw[I.out,sQ]),l.out⟩
theorem aA(w:World)(b o:Nat)(x:Value):aw w (w.setCell ⟨b,o,none⟩ x) [b]:=aw.setCell ⟨rfl,rfl,rfl,Nat.le_refl _,fun _ _ _=>rfl⟩ o x
theorem bo{w:World}{base j e size n:Nat}{v:Value}{J:List Value}(h:w.ownsRow base e size v n J)(T:j≤base):w.ownsRow j e size v n J:=by
 obtain⟨R,I⟩:=h;refine⟨R,?_⟩;rcases I with I|⟨g,cap,l,a,b,c⟩;·exact .inl I
 ·exact .inr ⟨g,cap,l,a,Nat.le_trans T b,c⟩
theorem fF{P:Program}{ops:Array Oper}{o:Oper}{a:Act}{w:World}{K:Act→World→Prop}{Q:Exit→Act→World→Prop}{E:Prop}(hg:o.guard=none)(s x:Operand)(t:TypeId)(ac:o.op=Op.call {callee:=Callee.builtin Builtin.append,args:=#[s,x],argTypes:=#[t,t]})(base:Nat)(e:TypeId)(i:TypeInfo)(z:Value)(size bytes:Nat)(h1:P.underlying t=some (.slice e))(h2:P.info? e=some i)(h3:i.zero=some z)(h4:i.size=size)(h5:i.bytes=bytes)(h6:z.cells.size=size)(h7:0<size)(v:Value)(n:Nat)(xs:List Value)(hs:a.eval s=v)(R:w.ownsRow base e size v n xs)(U:Addr)(m c:Nat)(l:List Value)(hx:a.eval x=.slice (some U) m c)(hn:l.length=m*size)(hc:∀j u,l[j]?=some u→w.cell? (U.add j)=some u)(ab:∀u∈l,u.oneCell'=true)(b1:n+m≤maxLen)(b2:(n+m)*bytes≤140737488355328)(I:base≤w.heap.size)(hK:∀J w',w'.ownsRow base e size J (n+m) (xs++l)→w.grownBy w' v.ownBlock→(J.ownBlock=v.ownBlock∨J.ownBlock=some w.heap.size)→K (a.put o.dst J) w'):if Region.wanted o (yielded ops a.tmps)=true then Oper.wp P o a w K Q else E:=by
 have hw:Region.wanted o (yielded ops a.tmps)=true:=by simp[Region.wanted,hg]
 rw[if_pos hw];obtain⟨J,w',T,r1,r2,_,r3⟩:=run_append_own_at (P:=P) w base t o.type e i z size bytes h1 h2 h3 h4 h5 h6 h7 v n xs R U m c l hn hc ab b1 b2 I;unfold Oper.wp;simp[execOp,ac,resolve,invoke,builtin,hs,hx,T,Result.andThen];exact hK J w' r1 r2 r3
theorem aw.sub{w w':World}{l l':List Nat}(h:aw w w' l)(R:∀b∈l,b∈l'):aw w w' l':=⟨h.os,h.tape,h.output,h.size,fun b j J=>h.block b j (fun I=>J (R b I))⟩
structure bA(w:World)(b:Nat)(vs:List Value):Prop where
 cell:∀i v,vs[i]?=some v→w.cell? ⟨b,i,none⟩=some v
 fz:∀o,w.frozen? ⟨b,o,none⟩=false
 lt:b<w.heap.size
theorem bA.keep{w w':World}{b:Nat}{vs:List Value}{l:List Nat}(h:bA w b vs)(j:aw w w' l)(I:b∉l):bA w' b vs:=⟨fun i v J=>j.bN (h.cell i v J) I,fun o=>j.eB h.lt (h.fz o) I,Nat.lt_of_lt_of_le h.lt j.size⟩
theorem bA.set{w:World}{b:Nat}{vs:List Value}(h:bA w b vs)(k:Nat)(l:k<vs.length)(y:Value):bA (w.setCell ⟨b,k,none⟩ y) b (vs.set k y):=by
 refine⟨fun i v j=>?_,fun o=>(World.frozen?_setCell ..).trans (h.fz o),by rw[World.size_setCell];exact h.lt⟩;by_cases hi:k=i;·subst hi;rw[List.getElem?_set_self l]at j;injection j with j;subst j;exact World.cell?_setCell_same _ _ _ (h.cell k vs[k] (by simp[l]))
 ·rw[List.getElem?_set_ne hi]at j;rw[World.cell?_setCell_other _ _ _ _ (by intro e;injection e with _ e2;exact hi e2)];exact h.cell i v j
theorem bA.new(w:World)(vs:List Value)(T:TypeId):bA (w.alloc (.cells vs.toArray T)) w.heap.size vs:=by refine⟨fun i v I=>?_,fun o=>by simp,by simp⟩;obtain⟨j,l⟩:=List.getElem?_eq_some_iff.1 I;simp[j,l]
theorem cq.sep{w w':World}{v:Value}{x:List aB}{l:List Nat}(h:cq w w.heap.size v x)(I:aw w w' l)(hd:∀b∈an v,b∉l):cq w' w'.heap.size v x:=by have H:=h;obtain⟨a1,R,rfl,_⟩:=h;exact H.keep I.size (fun b J j=>I.block b j (hd b ((bh rfl).1 J)))
theorem cq.sA{w w':World}{v:Value}{x:List aB}{l:List Nat}(h:cq w w.heap.size v x)(I:aw w w' l)(hd:∀b∈l,w.heap.size≤b):cq w' w'.heap.size v x:=by have H:=h;obtain⟨a1,R,rfl,_⟩:=h;exact H.keep I.size (fun b T j=>I.block b j (fun J=>absurd (hd b J) (by omega)))
theorem cq.shape{w:World}{B:Nat}{v:Value}{x:List aB}(h:cq w B v x):∃p c,v=.slice p x.length c:=by obtain⟨a1,j,e,_⟩:=h;exact⟨a1,j,e⟩
theorem dm.sep{w w':World}{v:Value}{x:List ar}{l:List Nat}(h:dm w w.heap.size v x)(I:aw w w' l)(hd:∀b∈an v,b∉l):dm w' w'.heap.size v x:=by have H:=h;obtain⟨a1,R,rfl,_⟩:=h;exact H.keep I.size (fun b J j=>I.block b j (hd b ((bh rfl).1 J)))
theorem dm.sA{w w':World}{v:Value}{x:List ar}{l:List Nat}(h:dm w w.heap.size v x)(I:aw w w' l)(hd:∀b∈l,w.heap.size≤b):dm w' w'.heap.size v x:=by have H:=h;obtain⟨a1,R,rfl,_⟩:=h;exact H.keep I.size (fun b T j=>I.block b j (fun J=>absurd (hd b J) (by omega)))
theorem dm.shape{w:World}{B:Nat}{v:Value}{x:List ar}(h:dm w B v x):∃p c,v=.slice p x.length c:=by obtain⟨a1,j,e,_⟩:=h;exact⟨a1,j,e⟩
def bl.cells(x:bl):List Value:=[.int .i64 x.kind,.string x.peer,.string x.label,.int .i64 x.sort]
theorem bl.aR(x:bl):x.cells.length=4:=rfl
theorem bl.cells_one(x:bl):∀u∈x.cells,u.oneCell'=true:=by intro u hu;simp[bl.cells]at hu;rcases hu with rfl|rfl|rfl|rfl<;>rfl
def bK(w:World)(base:Nat)(v:Value)(l:List bl):Prop:=w.ownsRow base 37 4 v l.length (l.flatMap bl.cells)
theorem bK.sl{w:World}{base:Nat}{v:Value}{l:List bl}(h:bK w base v l)(hl:l.length≤4294967296):cU w w.heap.size v l:=by
 have H:=h;obtain⟨_,hh⟩:=h;rcases hh with⟨rfl,T⟩|⟨J,cap,R,rfl,hg,I,U,_⟩;·have:l=[]:=List.length_eq_zero_iff.1 T;subst this;exact⟨none,0,rfl,Nat.le_refl _,by simp,fun h=>absurd rfl h⟩
 ·refine⟨_,_,rfl,U,hl,fun _=>⟨J,0,rfl,(Array.getElem?_eq_some_iff.1 I).1,iV.of w J l 0 (fun j hj=>?_)⟩⟩;rw[Nat.zero_add];have e:=fun i(hi:i<4)(x:Value)(hx:(l[j].cells)[i]?=some x)=>bF H rfl (j*4+i) x ((eE bl.cells 4 bl.aR l j hj i hi).trans hx);exact⟨e 0 (by omega) _ rfl,e 1 (by omega) _ rfl,e 2 (by omega) _ rfl,e 3 (by omega) _ rfl⟩
theorem bK.keep{w w':World}{base:Nat}{v:Value}{x:List bl}{l:List Nat}(h:bK w base v x)(j:aw w w' l)(hd:∀b∈an v,b∉l):bK w' base v x:=aJ h j hd
theorem bK.below{w w':World}{base:Nat}{v:Value}{x:List bl}(h:bK w base v x)(j:Below w.heap.size w w'):bK w' base v x:=aL h j
theorem bK.fresh{w:World}{base:Nat}{v:Value}{x:List bl}(h:bK w base v x):iB base w v:=au h
theorem bK.nil(w:World)(base:Nat):bK w base (.slice none 0 0) []:=ky w base _ _
theorem bK.snoc{w:World}{base:Nat}{v:Value}{l:List bl}{x:bl}(h:w.ownsRow base 37 4 v (l.length+1) (l.flatMap bl.cells++x.cells)):bK w base v (l++[x]):=by unfold bK;rw[List.length_append,List.length_singleton,List.flatMap_append];simpa using h
section
open Go.RowKit Go.Maps
theorem sZ{d:Nat}{c:Value}{ls:List Lit}(h:Tryz.prog.keyLits (d+1) 2 [c]=some ls):∃n,c=.int .i64 n:=by cases c<;>simp[Program.keyLits,Tryz.underlying2]at h;exact⟨_,by rw[h.1.1]⟩
theorem xD{d:Nat}{c:Value}{ls:List Lit}(h:Tryz.prog.keyLits (d+1) 9 [c]=some ls):∃s,c=.string s:=by cases c<;>simp[Program.keyLits,Tryz.underlying9]at h;exact⟨_,rfl⟩
theorem Fp{I:Value}{kl:Lit}(h:keyOf Tryz.prog 121 I=some kl):∃x:Int×bl,I=ic x.1 x.2:=by
 obtain⟨d,hd⟩:=Tryz.u6;unfold keyOf at h;rw[Tryz.underlying121]at h;simp only[]at h;split at h;case isFalse=>cases h
 case isTrue R=>simp only[Bool.and_eq_true]at R;have j:=R.2;rw[hd]at h;cases I<;>simp[Value.formed,Tryz.underlying121]at j;rename_i T;rw[Tryz.nh]at j;obtain⟨l⟩:=T;simp at j;match l,j with|[a,b,c,e,f],_=>rw[show Value.cells (.agg (List.toArray [a,b,c,e,f]))=#[a,b,c,e,f]from rfl]at h;unfold Program.keyLits at h;simp+decide[Tryz.underlying121,Tryz.nh,Tryz.rT,Tryz.sI,Option.bind_eq_some_iff]at h;obtain⟨l1,U,l2,⟨l3,J,-⟩,-⟩:=h;obtain⟨n1,rfl⟩:=sZ U;unfold Program.keyLits at J;simp+decide[Tryz.underlying37,Tryz.rT,Tryz.strCells,Tryz.sI,Option.bind_eq_some_iff]at J;obtain⟨_,k1,_,⟨_,k2,_,⟨_,k3,_,⟨_,k4,-⟩,-⟩,-⟩,-⟩:=J;obtain⟨n2,rfl⟩:=sZ k1;obtain⟨n3,rfl⟩:=xD k2;obtain⟨n4,rfl⟩:=xD k3;obtain⟨n5,rfl⟩:=sZ k4;exact⟨(n1,⟨n2,n3,n4,n5⟩),rfl⟩
end
theorem dh(w:World)(l:List Value)(t:TypeId)(j:Nat)(u:Value)(h:l[j]?=some u):(w.alloc (.cells l.toArray t)).cell? (Addr.add ⟨w.heap.size,0,none⟩ j)=some u:=by
 have e:(w.alloc (.cells l.toArray t)).heap[w.heap.size]?=some (.cells l.toArray t):=bY _ _ _ rfl;have I:Addr.add ⟨w.heap.size,0,none⟩ j=⟨w.heap.size,j,none⟩:=by unfold Addr.add;split<;>simp_all
 rw[I];simp only[World.cell?];rw[e];simpa using h
theorem Tryz.sJ:(Tryz.prog.info? 9).map (fun i=>(i.zero,i.size,i.bytes))=some (some (.string ByteArray.empty),1,16):=by kernel_rfl
theorem Cn{w:World}{base e n:Nat}{v:Value}{l:List Value}(h:w.ownsRow base e 1 v n l)(U:0<n):∃g c,v=.slice (some ⟨g,0,none⟩) n c∧g<w.heap.size∧∀i x,l[i]?=some x→w.cell? ⟨g,i,none⟩=some x:=by
 have H:=h;obtain⟨_,J⟩:=h;rcases J with⟨rfl,T⟩|⟨g,cap,I,rfl,_,j,_⟩;·omega
 ·exact⟨g,cap,rfl,(Array.getElem?_eq_some_iff.1 j).1,fun i x R=>bF H rfl i x R⟩
def kF(l:List ByteArray):List Value:=l.map Value.string
theorem pz(l:List ByteArray):∀u∈kF l,u.oneCell'=true:=by intro u hu;simp only[kF,List.mem_map]at hu;obtain⟨x,_,rfl⟩:=hu;rfl
section
open Go.RowKit Go.ChangeShapes Go.WideShapes
end
theorem ko(a b:List ByteArray):dr (a++b)=dr a++dr b:=by apply ByteArray.ext;simp only[dr,il,List.take_length,List.flatMap_append];simp
theorem jg(a:ByteArray):dr [a]=a:=join_one a
theorem jA(a:ByteArray)(l:List ByteArray):dr (a::l)=a++dr l:=by rw[show a::l=[a]++l from rfl,ko,jg]
theorem B8:dr []=ByteArray.empty:=by apply ByteArray.ext;simp[dr,il]
theorem nS(l:List ByteArray):(dr l).size=(l.map ByteArray.size).sum:=by induction l with|nil=>rw[B8];rfl|cons a l ih=>rw[jA,ByteArray.size_append,ih];simp
theorem lD(s:ByteArray)(h:s.size≤20):(eO s).size≤30:=by rw[ng (by omega),sQ,ByteArray.size_append];have:=ff (s.size:Int);omega
theorem lC{l:List ByteArray}{c:Nat}(h:∀x∈l,x.size≤c):(l.map ByteArray.size).sum≤l.length*c:=by induction l with|nil=>simp|cons a l ih=>have I:=h a (by simp);have J:=ih (fun x j=>h x (by simp[j]));simp[Nat.succ_mul];omega
def aB.cells(x:aB):List Value:=[.int .i64 x.kind,.string x.peer]
theorem aB.aR(x:aB):x.cells.length=2:=rfl
theorem aB.cells_one(x:aB):∀u∈x.cells,u.oneCell'=true:=by intro u hu;simp[aB.cells]at hu;rcases hu with rfl|rfl<;>rfl
def aV(w:World)(base:Nat)(v:Value)(l:List aB):Prop:=w.ownsRow base 75 2 v l.length (l.flatMap aB.cells)
theorem aV.sl{w:World}{base:Nat}{v:Value}{l:List aB}(h:aV w base v l)(hl:l.length≤4294967296):cq w w.heap.size v l:=by
 have H:=h;obtain⟨_,hh⟩:=h;rcases hh with⟨rfl,T⟩|⟨J,cap,R,rfl,hg,I,U,_⟩;·have:l=[]:=List.length_eq_zero_iff.1 T;subst this;exact⟨none,0,rfl,Nat.le_refl _,by simp,fun h=>absurd rfl h⟩
 ·refine⟨_,_,rfl,U,hl,fun _=>⟨J,0,rfl,(Array.getElem?_eq_some_iff.1 I).1,dM.of w J l 0 (fun j hj=>?_)⟩⟩;rw[Nat.zero_add];have e:=fun i(hi:i<2)(x:Value)(hx:(l[j].cells)[i]?=some x)=>bF H rfl (j*2+i) x ((eE aB.cells 2 aB.aR l j hj i hi).trans hx);exact⟨e 0 (by omega) _ rfl,e 1 (by omega) _ rfl⟩
theorem aV.keep{w w':World}{base:Nat}{v:Value}{x:List aB}{l:List Nat}(h:aV w base v x)(j:aw w w' l)(hd:∀b∈an v,b∉l):aV w' base v x:=aJ h j hd
theorem aV.below{w w':World}{base:Nat}{v:Value}{x:List aB}(h:aV w base v x)(j:Below w.heap.size w w'):aV w' base v x:=aL h j
theorem aV.fresh{w:World}{base:Nat}{v:Value}{x:List aB}(h:aV w base v x):iB base w v:=au h
theorem aV.nil(w:World)(base:Nat):aV w base (.slice none 0 0) []:=ky w base _ _
theorem aV.snoc{w:World}{base:Nat}{v:Value}{l:List aB}{x:aB}(h:w.ownsRow base 75 2 v (l.length+1) (l.flatMap aB.cells++x.cells)):aV w base v (l++[x]):=by unfold aV;rw[List.length_append,List.length_singleton,List.flatMap_append];simpa using h
def ar.cells(x:ar):List Value:=[.int .i64 x.src,.string x.label,.int .i64 x.sort,.int .i64 x.dst]
theorem ar.aR(x:ar):x.cells.length=4:=rfl
theorem ar.cells_one(x:ar):∀u∈x.cells,u.oneCell'=true:=by intro u hu;simp[ar.cells]at hu;rcases hu with rfl|rfl|rfl|rfl<;>rfl
def aO(w:World)(base:Nat)(v:Value)(l:List ar):Prop:=w.ownsRow base 61 4 v l.length (l.flatMap ar.cells)
theorem aO.sl{w:World}{base:Nat}{v:Value}{l:List ar}(h:aO w base v l)(hl:l.length≤4294967296):dm w w.heap.size v l:=by
 have H:=h;obtain⟨_,hh⟩:=h;rcases hh with⟨rfl,T⟩|⟨J,cap,R,rfl,hg,I,U,_⟩;·have:l=[]:=List.length_eq_zero_iff.1 T;subst this;exact⟨none,0,rfl,Nat.le_refl _,by simp,fun h=>absurd rfl h⟩
 ·refine⟨_,_,rfl,U,hl,fun _=>⟨J,0,rfl,(Array.getElem?_eq_some_iff.1 I).1,fo.of w J l 0 (fun j hj=>?_)⟩⟩;rw[Nat.zero_add];have e:=fun i(hi:i<4)(x:Value)(hx:(l[j].cells)[i]?=some x)=>bF H rfl (j*4+i) x ((eE ar.cells 4 ar.aR l j hj i hi).trans hx);exact⟨e 0 (by omega) _ rfl,e 1 (by omega) _ rfl,e 2 (by omega) _ rfl,e 3 (by omega) _ rfl⟩
theorem aO.keep{w w':World}{base:Nat}{v:Value}{x:List ar}{l:List Nat}(h:aO w base v x)(j:aw w w' l)(hd:∀b∈an v,b∉l):aO w' base v x:=aJ h j hd
theorem aO.below{w w':World}{base:Nat}{v:Value}{x:List ar}(h:aO w base v x)(j:Below w.heap.size w w'):aO w' base v x:=aL h j
theorem aO.fresh{w:World}{base:Nat}{v:Value}{x:List ar}(h:aO w base v x):iB base w v:=au h
theorem aO.nil(w:World)(base:Nat):aO w base (.slice none 0 0) []:=ky w base _ _
theorem aO.snoc{w:World}{base:Nat}{v:Value}{l:List ar}{x:ar}(h:w.ownsRow base 61 4 v (l.length+1) (l.flatMap ar.cells++x.cells)):aO w base v (l++[x]):=by unfold aO;rw[List.length_append,List.length_singleton,List.flatMap_append];simpa using h
end Go.Proofs.YtlbcnmcfljaijaaGreat
