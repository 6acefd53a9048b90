import Derived.Test.YtdiiiijkhpdcbaaGreatDoorRX00
import Derived.OpenShut
namespace Go.Proofs.YtdiiiijkhpdcbaaGreatDoor
open Go.RowKit
set_option linter.unusedSimpArgs false
set_option linter.unusedVariables false
set_option maxHeartbeats 1000000
def td(first:Bool)(c:Int):Bool:=(decide (97<=c)&&decide (c<=122))||(!first&&((decide (48<=c)&&decide (c<=57))||c==95))
def ff(s:ByteArray)(j:Nat):Int:=if h:j<s.size then(s[j].toNat:Int)else 0
def ct(s:ByteArray):Bool:=decide (1<=s.size)&&decide (s.size<=20)&&(List.range s.size).all fun j=>td (j==0) (ff s j)
theorem ql{s:ByteArray}(h:s.size<1\/20<s.size):ct s=false:=by
 unfold ct;rcases h with h|h;·have:decide (1<=s.size)=false:=decide_eq_false (by omega);simp[this]
 ·have:decide (s.size<=20)=false:=decide_eq_false (by omega);simp[this]
theorem kp{s:ByteArray}(j:Nat)(h:j<s.size)(l:td (j==0) (ff s j)=false):ct s=false:=by
 unfold ct;have:(List.range s.size).all (fun j=>td (j==0) (ff s j))=false:=by rw[List.all_eq_false];exact⟨j,by simpa using h,by simpa using l⟩
 simp[this]
theorem uc{s:ByteArray}(l:1<=s.size)(C:s.size<=20)(h:∀j,j<s.size->td (j==0) (ff s j)=true):ct s=true:=by
 unfold ct;have:(List.range s.size).all (fun j=>td (j==0) (ff s j))=true:=by rw[List.all_eq_true];intro j I;exact h j (by simpa using I)
 simp[this,l,C]
theorem qR(f:Bool)(c:Int):td f c=true↔(97<=c/\c<=122)\/(f=false/\((48<=c/\c<=57)\/c=95)):=by simp[td]
theorem qS(f:Bool)(c:Int):td f c=false↔¬((97<=c/\c<=122)\/(f=false/\((48<=c/\c<=57)\/c=95))):=by rw[<-qR];simp
theorem dP{s:ByteArray}{k:Nat}(h:k<s.size):ff s k=(s[k].toNat:Int):=by simp[ff,h]
theorem lZ{s:ByteArray}{k:Nat}(h:∀j,j<k->td (j==0) (ff s j)=true)(l:td (k==0) (ff s k)=true):∀j,j<k+1->td (j==0) (ff s j)=true:=by
 intro j C;by_cases e:j=k;·subst e;exact l
 ·exact h j (by omega)
theorem uz(s:ByteArray)(w:World)(hs:s.size<=maxLen):Calls Tryz.prog 177 #[.string s] w fun e w'=>e=.returned (.bool (ct s))/\w'=w:=by
 unfold maxLen at hs;by_cases h:s.size<1\/20<s.size;·have hf:=aa (ql h);rcases h with h|h;all_goals go_in;go_wp2;go_ret;exact⟨aD (bw hf),rfl⟩
 ·have h1:1<=s.size:=by omega
  have h2:s.size<=20:=by omega
  clear h;go_in;go_wp2;go_loop[3](fun i=>∃k:Nat,k<=s.size/\i=.int .i64 k/\∀j,j<k->td (j==0) (ff s j)=true)(fun i=>s.size-(intOf i).toNat);case atStart=>exact⟨0,Nat.zero_le _,rfl,fun j h=>absurd h (by omega)⟩
  case round=>
   obtain⟨k,hk,rfl,J⟩:=hrel;have T:=aa J;clear J;by_cases l:k<s.size;·
    have HB:=aa (dP l);by_cases I:97<=(s[k].toNat:Int)/\(s[k].toNat:Int)<=122;·
     have C:Hid (td (k==0) (ff s k)=true):=by show td _ _=true;rw[qR,dP l];exact .inl I
     obtain⟨U,c3⟩:=I;go_wp2;go_round;case rel=>exact⟨k+1,by omega,by go_num,lZ (bw T) (bw C)⟩
     case measure=>simp[intOf];omega
    ·by_cases k0:k=0;·
      have C:=aa (kp k l (by rw[qS,dP l];subst k0;simpa using I));subst k0;by_cases U:97<=(s[0].toNat:Int);·
       have c3:¬(s[0].toNat:Int)<=122:=by omega
       clear I;go_wp2;go_ret;exact⟨aD (bw C),rfl⟩
      ·clear I;go_wp2;go_ret;exact⟨aD (bw C),rfl⟩
     ·have k1:((k:Int)==0)=false:=by simp;omega
      have R:(k==0)=false:=by simp[k0]
      have P:((s[k].toNat:Int)<48)\/(48<=(s[k].toNat:Int)/\(s[k].toNat:Int)<=57)\/(57<(s[k].toNat:Int)/\(s[k].toNat:Int)<97/\(s[k].toNat:Int)≠95)\/(s[k].toNat:Int)=95\/122<(s[k].toNat:Int):=by omega
      rcases P with c|c|c|c|c;·
       have C:=aa (kp k l (by rw[qS,dP l];omega));have c4:((s[k].toNat:Int)!=95)=true:=by simp;omega
       clear I R;go_wp2;go_ret;exact⟨aD (bw C),rfl⟩
      ·have C:Hid (td (k==0) (ff s k)=true):=aa (by rw[qR,dP l];exact .inr ⟨R,.inl c⟩);obtain⟨U,c3⟩:=c;clear I R;go_wp2;go_round;case rel=>exact⟨k+1,by omega,by go_num,lZ (bw T) (bw C)⟩
       case measure=>simp[intOf];omega
      ·have C:=aa (kp k l (by rw[qS,dP l];omega));have c4:((s[k].toNat:Int)!=95)=true:=by simp;omega
       obtain⟨U,c3,-⟩:=c;have c7:decide ((s[k].toNat:Int)<=57)=false:=decide_eq_false (by omega);clear I R;go_wp2;go_ret;exact⟨aD (bw C),rfl⟩
      ·have C:Hid (td (k==0) (ff s k)=true):=aa (by rw[qR,dP l];exact .inr ⟨R,.inr c⟩);have c4:((s[k].toNat:Int)!=95)=false:=by simp;omega
       have c5:57<(s[k].toNat:Int):=by omega
       have c6:(s[k].toNat:Int)<97:=by omega
       clear I R c;go_wp2;go_round;case rel=>exact⟨k+1,by omega,by go_num,lZ (bw T) (bw C)⟩
       case measure=>simp[intOf];omega
      ·have C:=aa (kp k l (by rw[qS,dP l];omega));have c4:((s[k].toNat:Int)!=95)=true:=by simp;omega
       have c7:decide ((s[k].toNat:Int)<=57)=false:=decide_eq_false (by omega);have c8:decide ((s[k].toNat:Int)<=122)=false:=decide_eq_false (by omega);clear I R;go_wp2;go_ret;exact⟨aD (bw C),rfl⟩
   ·go_wp2;go_ret;exact⟨aD (uc h1 h2 (fun j hj=>bw T j (by omega))),rfl⟩
def BP(c:Int):Bool:=decide (97<=c)&&decide (c<=122)
def Df(c:Int):Bool:=decide (48<=c)&&decide (c<=57)
theorem jd(c:Int)(w:World):Calls Tryz.prog 246 #[.int .u8 c] w fun e w'=>e=.returned (.bool (BP c))/\w'=w:=by
 by_cases j:97<=c;·by_cases l:c<=122;all_goals go_in;go_wp2;go_ret;exact⟨aD (by simp[BP,j,l]),rfl⟩
 ·go_in;go_wp2;go_ret;exact⟨aD (by rw[BP,decide_eq_false (show¬97<=c by omega)];rfl),rfl⟩
theorem rS(c:Int)(w:World):Calls Tryz.prog 247 #[.int .u8 c] w fun e w'=>e=.returned (.bool (Df c))/\w'=w:=by
 by_cases j:48<=c;·by_cases l:c<=57;all_goals go_in;go_wp2;go_ret;exact⟨aD (by simp[Df,j,l]),rfl⟩
 ·go_in;go_wp2;go_ret;exact⟨aD (by rw[Df,decide_eq_false (show¬48<=c by omega)];rfl),rfl⟩
theorem pz(f:Bool)(c:Int):td f c=(BP c||(!f&&(Df c||c==95))):=rfl
theorem lX(s:ByteArray)(w:World)(hs:s.size<=maxLen):Calls Tryz.prog 207 #[.string s] w fun e w'=>e=.returned (.bool (ct s))/\w'=w:=by
 unfold maxLen at hs;by_cases h:s.size<1\/20<s.size;·
  have hf:=aa (ql h);rcases h with h|h;·have g:((s.size:Int)==0)=true:=beq_iff_eq.2 (by omega);go_in;go_wp2;go_ret;exact⟨aD (bw hf),rfl⟩
  ·have g:((s.size:Int)==0)=false:=beq_eq_false_iff_ne.2 (by omega);go_in;go_wp2;go_ret;exact⟨aD (bw hf),rfl⟩
 ·have U:1<=s.size:=by omega
  have h2:s.size<=20:=by omega
  have g:((s.size:Int)==0)=false:=beq_eq_false_iff_ne.2 (by omega);have g2:decide (20<(s.size:Int))=false:=decide_eq_false (by omega);have g3:0<s.size:=by omega
  clear h;cases hl:BP (s[0].toNat:Int);·have C:=aa (kp (s:=s) 0 g3 (by rw[pz,dP g3,hl];rfl));have l:=aa hl;clear hl;go_in;go_wp2_with(go_at_call 246;refine(jd _ _).mono ?_;rintro e w'⟨rfl,rfl⟩;rw[bw l]);go_ret;exact⟨aD (bw C),rfl⟩
  ·have l:=aa hl;have C:Hid (td (0==0) (ff s 0)=true):=aa (by rw[pz,dP g3,hl];rfl);clear hl;go_in;go_wp2_with(go_at_call 246;refine(jd _ _).mono ?_;rintro e w'⟨rfl,rfl⟩;rw[bw l]);go_loop[3](fun i=>∃k:Nat,1<=k/\k<=s.size/\i=.int .i64 k/\∀j,j<k->td (j==0) (ff s j)=true)(fun i=>s.size-(intOf i).toNat);case atStart=>exact⟨1,Nat.le_refl _,U,rfl,fun j h=>by rw[show j=0 from by omega];exact bw C⟩
   case round=>
    obtain⟨k,ab,hk,rfl,J⟩:=hrel;have T:=aa J;clear J C l;by_cases I:k<s.size;·
     have P:(k==0)=false:=beq_eq_false_iff_ne.2 (by omega);cases hl:BP (s[k].toNat:Int);·
      cases hd:Df (s[k].toNat:Int);·
       cases hu:((s[k].toNat:Int)==95);·
        have C:=aa (kp (s:=s) k I (by rw[pz,dP I,hl,hd,hu,P];rfl));have l:=aa hl;have R:=aa hd;have c4:((s[k].toNat:Int)!=95)=true:=by rw[bne,hu];rfl
        clear hl hd hu P;go_wp2_with(first|(go_at_call 246;refine(jd _ _).mono ?_;rintro e w'⟨rfl,rfl⟩;rw[bw l])|(go_at_call 247;refine(rS _ _).mono ?_;rintro e w'⟨rfl,rfl⟩;rw[bw R]));go_ret;exact⟨aD (bw C),rfl⟩
       ·have C:Hid (td (k==0) (ff s k)=true):=aa (by rw[pz,dP I,hl,hd,hu,P];rfl);have l:=aa hl;have R:=aa hd;have c4:((s[k].toNat:Int)!=95)=false:=by rw[bne,hu];rfl
        clear hl hd hu P;go_wp2_with(first|(go_at_call 246;refine(jd _ _).mono ?_;rintro e w'⟨rfl,rfl⟩;rw[bw l])|(go_at_call 247;refine(rS _ _).mono ?_;rintro e w'⟨rfl,rfl⟩;rw[bw R]));go_round;case rel=>exact⟨k+1,by omega,by omega,by go_num,lZ (bw T) (bw C)⟩
        case measure=>simp[intOf];omega
      ·have C:Hid (td (k==0) (ff s k)=true):=aa (by rw[pz,dP I,hl,hd,P];rfl);have l:=aa hl;have R:=aa hd;clear hl hd P;go_wp2_with(first|(go_at_call 246;refine(jd _ _).mono ?_;rintro e w'⟨rfl,rfl⟩;rw[bw l])|(go_at_call 247;refine(rS _ _).mono ?_;rintro e w'⟨rfl,rfl⟩;rw[bw R]));go_round;case rel=>exact⟨k+1,by omega,by omega,by go_num,lZ (bw T) (bw C)⟩
       case measure=>simp[intOf];omega
     ·have C:Hid (td (k==0) (ff s k)=true):=aa (by rw[pz,dP I,hl];rfl);have l:=aa hl;clear hl P;go_wp2_with(first|(go_at_call 246;refine(jd _ _).mono ?_;rintro e w'⟨rfl,rfl⟩;rw[bw l]));go_round;case rel=>exact⟨k+1,by omega,by omega,by go_num,lZ (bw T) (bw C)⟩
      case measure=>simp[intOf];omega
    ·go_wp2;go_ret;exact⟨aD (uc U h2 (fun j hj=>bw T j (by omega))),rfl⟩
structure aP where
 kind:Int
 peer:ByteArray
def aP.val(x:aP):Value:=.agg #[.int .i64 x.kind,.string x.peer]
def aP.ok(x:aP):Prop:=x.peer.size<=maxLen
def aP.fit(x:aP):Prop:=x.peer.size<=1048576
def fF(w:World)(b o:Nat)(x:aP):Prop:=w.cell? ⟨b,o,none⟩=some (.int .i64 x.kind)/\w.cell? ⟨b,o+1,none⟩=some (.string x.peer)
def dZ(w:World)(b:Nat):Nat->List aP->Prop|_,[]=>True|o,x::l=>fF w b o x/\dZ w b (o+2) l
theorem fF.carry{w w':World}{b o:Nat}{x:aP}(h:fF w b o x){B:Nat}(j:b<B)(l:Below B w w'):fF w' b o x:=by obtain⟨C,I⟩:=h;exact⟨(l.cell (p:=⟨b,_,none⟩) j).trans C,(l.cell (p:=⟨b,_,none⟩) j).trans I⟩
theorem fF.lt{w:World}{b o:Nat}{x:aP}(h:fF w b o x):b<w.heap.size:=World.block_lt_of_cell? w _ h.1
theorem dZ.carry{w w':World}{b B:Nat}(j:b<B)(C:Below B w w'):∀{l:List aP}{o:Nat},dZ w b o l->dZ w' b o l|[],_,_=>trivial|_::_,_,h=>⟨h.1.carry j C,dZ.carry j C h.2⟩
theorem dZ.get{w:World}{b:Nat}:∀{l:List aP}{o:Nat},dZ w b o l->∀i(h:i<l.length),fF w b (o+i*2) l[i]|_::_,_,h,0,_=>by simpa using h.1|_::l,o,h,i+1,hi=>by have:=h.2.get i (by simpa using hi);rw[show o+2+i*2=o+(i+1)*2 from by omega]at this;simpa using this
theorem dZ.of(w:World)(g:Nat):∀(l:List aP)(o:Nat),(∀j(h:j<l.length),fF w g (o+j*2) l[j])->dZ w g o l|[],_,_=>trivial|x::l,o,h=>⟨by have:=h 0 (by simp);simpa only[Nat.zero_mul,Nat.add_zero,List.getElem_cons_zero]using this,dZ.of w g l (o+2) (fun j C=>by have:=h (j+1) (by simpa using C);rw[show o+(j+1)*2=o+2+j*2 from by omega]at this;simpa only[List.getElem_cons_succ]using this)⟩
def dc(w:World)(B:Nat)(v:Value)(l:List aP):Prop:=∃j cap,v=.slice j l.length cap/\l.length<=cap/\l.length<=4294967296/\(l≠[]->∃b o,j=some ⟨b,o,none⟩/\b<B/\dZ w b o l)
theorem dc.carry{w w':World}{B:Nat}{v:Value}{l:List aP}(h:dc w B v l)(U:Below B w w'):dc w' B v l:=by obtain⟨I,cap,J,P,R,T⟩:=h;refine⟨I,cap,J,P,R,fun C=>?_⟩;obtain⟨b,o,e,j,hr⟩:=T C;exact⟨b,o,e,j,hr.carry j U⟩
theorem dc.up{w:World}{B C:Nat}{v:Value}{l:List aP}(h:dc w B v l)(hB:B<=C):dc w C v l:=by obtain⟨I,cap,J,P,R,T⟩:=h;refine⟨I,cap,J,P,R,fun j=>?_⟩;obtain⟨b,o,e,U,hr⟩:=T j;exact⟨b,o,e,by omega,hr⟩
theorem fF.block{w w':World}{b o:Nat}{x:aP}(h:fF w b o x)(j:w'.heap[b]?=w.heap[b]?):fF w' b o x:=by obtain⟨l,C⟩:=h;exact⟨(World.cell?_of_block (a:=⟨b,_,none⟩) j).trans l,(World.cell?_of_block (a:=⟨b,_,none⟩) j).trans C⟩
theorem dZ.block{w w':World}{b:Nat}(j:w'.heap[b]?=w.heap[b]?):∀{l:List aP}{o:Nat},dZ w b o l->dZ w' b o l|[],_,_=>trivial|_::_,_,h=>⟨h.1.block j,dZ.block j h.2⟩
theorem dc.aA{w w':World}{B I:Nat}{v:Value}{l:List aP}(h:dc w B v l)(hB:B<=I)(U:∀b,v.ownBlock=some b->b<B->w'.heap[b]?=w.heap[b]?):dc w' I v l:=by obtain⟨J,cap,rfl,P,R,T⟩:=h;refine⟨J,cap,rfl,P,R,fun C=>?_⟩;obtain⟨b,o,rfl,j,hr⟩:=T C;exact⟨b,o,rfl,by omega,hr.block (U b rfl j)⟩
theorem dc.iF{w:World}{B:Nat}{v:Value}{l:List aP}(h:dc w B v l):l.length<=4294967296:=by obtain⟨j,cap,_,C,I,_⟩:=h;omega
theorem Tryz.ni:(Tryz.prog.info? 152).map (fun i=>(i.zero,i.size,i.bytes))=some (some (.agg #[.int .i64 0,.string .empty]),2,24):=by kernel_rfl
section
open Go.RowKit Go.ChangeShapes Go.WideShapes
end
theorem dc.sep{w w':World}{v:Value}{x:List aP}{l:List Nat}(h:dc w w.heap.size v x)(C:aH w w' l)(hd:∀b∈ae v,b∉l):dc w' w'.heap.size v x:=by have H:=h;obtain⟨J,P,rfl,_⟩:=h;exact H.aA C.size (fun b I j=>C.block b j (hd b ((aS rfl).1 I)))
theorem dc.tJ{w w':World}{v:Value}{x:List aP}{l:List Nat}(h:dc w w.heap.size v x)(C:aH w w' l)(hd:∀b∈l,w.heap.size<=b):dc w' w'.heap.size v x:=by have H:=h;obtain⟨J,P,rfl,_⟩:=h;exact H.aA C.size (fun b R j=>C.block b j (fun I=>absurd (hd b I) (by omega)))
theorem dc.shape{w:World}{B:Nat}{v:Value}{x:List aP}(h:dc w B v x):∃p c,v=.slice p x.length c:=by obtain⟨j,l,e,_⟩:=h;exact⟨j,l,e⟩
def aP.cells(x:aP):List Value:=[.int .i64 x.kind,.string x.peer]
theorem aP.bh(x:aP):x.cells.length=2:=rfl
theorem aP.cells_one(x:aP):∀u∈x.cells,u.oneCell'=true:=by intro u hu;simp[aP.cells]at hu;rcases hu with rfl|rfl<;>rfl
def cF(w:World)(base:Nat)(v:Value)(l:List aP):Prop:=w.ownsRow base 152 2 v l.length (l.flatMap aP.cells)
theorem cF.sl{w:World}{base:Nat}{v:Value}{l:List aP}(h:cF w base v l)(hl:l.length<=4294967296):dc w w.heap.size v l:=by
 have H:=h;obtain⟨_,T⟩:=h;rcases T with⟨rfl,P⟩|⟨I,cap,J,rfl,hg,C,R,_⟩;·have:l=[]:=List.length_eq_zero_iff.1 P;subst this;exact⟨none,0,rfl,Nat.le_refl _,by simp,fun h=>absurd rfl h⟩
 ·refine⟨_,_,rfl,R,hl,fun _=>⟨I,0,rfl,(Array.getElem?_eq_some_iff.1 C).1,dZ.of w I l 0 (fun j U=>?_)⟩⟩;rw[Nat.zero_add];have e:=fun i(hi:i<2)(x:Value)(hx:(l[j].cells)[i]?=some x)=>cQ H rfl (j*2+i) x ((dT aP.cells 2 aP.bh l j U i hi).trans hx);exact⟨e 0 (by omega) _ rfl,e 1 (by omega) _ rfl⟩
theorem cF.aA{w w':World}{base:Nat}{v:Value}{x:List aP}{l:List Nat}(h:cF w base v x)(j:aH w w' l)(hd:∀b∈ae v,b∉l):cF w' base v x:=aK h j hd
theorem cF.below{w w':World}{base:Nat}{v:Value}{x:List aP}(h:cF w base v x)(j:ZW w w'):cF w' base v x:=aT h j
theorem cF.fresh{w:World}{base:Nat}{v:Value}{x:List aP}(h:cF w base v x):dk base w v:=ak h
theorem cF.nil(w:World)(base:Nat):cF w base (.slice none 0 0) []:=dd w base _ _
theorem cF.snoc{w:World}{base:Nat}{v:Value}{l:List aP}{x:aP}(h:w.ownsRow base 152 2 v (l.length+1) (l.flatMap aP.cells++x.cells)):cF w base v (l++[x]):=by unfold cF;rw[List.length_append,List.length_singleton,List.flatMap_append];simpa using h
