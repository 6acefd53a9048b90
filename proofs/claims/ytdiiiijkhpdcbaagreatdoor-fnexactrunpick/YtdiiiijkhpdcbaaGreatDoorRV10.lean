import Derived.Test.YtdiiiijkhpdcbaaGreatDoorRV06
import Derived.Test.YtdiiiijkhpdcbaaGreatDoorRows
import Derived.Test.YtdiiiijkhpdcbaaGreatDoorRV07
import Derived.Stop.LaidTwo
import Derived.OpenShut
import Derived.Test.YtdiiiijkhpdcbaaGreatDoorRV04
namespace Go.Proofs.YtdiiiijkhpdcbaaGreatDoor
open Go.RowKit
set_option linter.unusedSimpArgs false
set_option linter.unusedVariables false
set_option maxHeartbeats 1000000
def sO(first:Bool)(c:Int):Bool:=(decide (97<=c)&&decide (c<=122))||(!first&&((decide (48<=c)&&decide (c<=57))||c==95))
def fh(s:ByteArray)(j:Nat):Int:=if h:j<s.size then(s[j].toNat:Int)else 0
def cA(s:ByteArray):Bool:=decide (1<=s.size)&&decide (s.size<=20)&&(List.range s.size).all fun j=>sO (j==0) (fh s j)
theorem qb{s:ByteArray}(h:s.size<1\/20<s.size):cA s=false:=by
 unfold cA;rcases h with h|h;·have:decide (1<=s.size)=false:=decide_eq_false (by omega);simp[this]
 ·have:decide (s.size<=20)=false:=decide_eq_false (by omega);simp[this]
theorem kh{s:ByteArray}(j:Nat)(h:j<s.size)(l:sO (j==0) (fh s j)=false):cA s=false:=by
 unfold cA;have:(List.range s.size).all (fun j=>sO (j==0) (fh s j))=false:=by rw[List.all_eq_false];exact⟨j,by simpa using h,by simpa using l⟩
 simp[this]
theorem tI{s:ByteArray}(l:1<=s.size)(C:s.size<=20)(h:∀j,j<s.size->sO (j==0) (fh s j)=true):cA s=true:=by
 unfold cA;have:(List.range s.size).all (fun j=>sO (j==0) (fh s j))=true:=by rw[List.all_eq_true];intro j I;exact h j (by simpa using I)
 simp[this,l,C]
theorem qK(f:Bool)(c:Int):sO f c=true↔(97<=c/\c<=122)\/(f=false/\((48<=c/\c<=57)\/c=95)):=by simp[sO]
theorem qL(f:Bool)(c:Int):sO f c=false↔¬((97<=c/\c<=122)\/(f=false/\((48<=c/\c<=57)\/c=95))):=by rw[<-qK];simp
theorem dN{s:ByteArray}{k:Nat}(h:k<s.size):fh s k=(s[k].toNat:Int):=by simp[fh,h]
theorem lV{s:ByteArray}{k:Nat}(h:∀j,j<k->sO (j==0) (fh s j)=true)(l:sO (k==0) (fh s k)=true):∀j,j<k+1->sO (j==0) (fh s j)=true:=by
 intro j C;by_cases e:j=k;·subst e;exact l
 ·exact h j (by omega)
theorem uc(s:ByteArray)(w:World)(hs:s.size<=maxLen):Calls Tryz.prog 177 #[.string s] w fun e w'=>e=.returned (.bool (cA s))/\w'=w:=by
 unfold maxLen at hs;by_cases h:s.size<1\/20<s.size;·have hf:=aa (qb h);rcases h with h|h;all_goals go_enter Tryz.func177,Tryz.ntmps177;go_wp2;go_ret;exact⟨aC (bw hf),rfl⟩
 ·have h1:1<=s.size:=by omega
  have h2:s.size<=20:=by omega
  clear h;go_enter Tryz.func177,Tryz.ntmps177;go_wp2;go_loop[3](fun i=>∃k:Nat,k<=s.size/\i=.int .i64 k/\∀j,j<k->sO (j==0) (fh s j)=true)(fun i=>s.size-(intOf i).toNat);case atStart=>exact⟨0,Nat.zero_le _,rfl,fun j h=>absurd h (by omega)⟩
  case round=>
   obtain⟨k,hk,rfl,J⟩:=hrel;have T:=aa J;clear J;by_cases l:k<s.size;·
    have HB:=aa (dN l);by_cases I:97<=(s[k].toNat:Int)/\(s[k].toNat:Int)<=122;·
     have C:Hid (sO (k==0) (fh s k)=true):=by show sO _ _=true;rw[qK,dN l];exact .inl I
     obtain⟨U,c3⟩:=I;go_wp2;go_round;case rel=>exact⟨k+1,by omega,by go_num,lV (bw T) (bw C)⟩
     case measure=>simp[intOf];omega
    ·by_cases k0:k=0;·
      have C:=aa (kh k l (by rw[qL,dN l];subst k0;simpa using I));subst k0;by_cases U:97<=(s[0].toNat:Int);·
       have c3:¬(s[0].toNat:Int)<=122:=by omega
       clear I;go_wp2;go_ret;exact⟨aC (bw C),rfl⟩
      ·clear I;go_wp2;go_ret;exact⟨aC (bw C),rfl⟩
     ·have k1:((k:Int)==0)=false:=by simp;omega
      have R:(k==0)=false:=by simp[k0]
      have P:((s[k].toNat:Int)<48)\/(48<=(s[k].toNat:Int)/\(s[k].toNat:Int)<=57)\/(57<(s[k].toNat:Int)/\(s[k].toNat:Int)<97/\(s[k].toNat:Int)≠95)\/(s[k].toNat:Int)=95\/122<(s[k].toNat:Int):=by omega
      rcases P with c|c|c|c|c;·
       have C:=aa (kh k l (by rw[qL,dN l];omega));have c4:((s[k].toNat:Int)!=95)=true:=by simp;omega
       clear I R;go_wp2;go_ret;exact⟨aC (bw C),rfl⟩
      ·have C:Hid (sO (k==0) (fh s k)=true):=aa (by rw[qK,dN l];exact .inr ⟨R,.inl c⟩);obtain⟨U,c3⟩:=c;clear I R;go_wp2;go_round;case rel=>exact⟨k+1,by omega,by go_num,lV (bw T) (bw C)⟩
       case measure=>simp[intOf];omega
      ·have C:=aa (kh k l (by rw[qL,dN l];omega));have c4:((s[k].toNat:Int)!=95)=true:=by simp;omega
       obtain⟨U,c3,-⟩:=c;have c7:decide ((s[k].toNat:Int)<=57)=false:=decide_eq_false (by omega);clear I R;go_wp2;go_ret;exact⟨aC (bw C),rfl⟩
      ·have C:Hid (sO (k==0) (fh s k)=true):=aa (by rw[qK,dN l];exact .inr ⟨R,.inr c⟩);have c4:((s[k].toNat:Int)!=95)=false:=by simp;omega
       have c5:57<(s[k].toNat:Int):=by omega
       have c6:(s[k].toNat:Int)<97:=by omega
       clear I R c;go_wp2;go_round;case rel=>exact⟨k+1,by omega,by go_num,lV (bw T) (bw C)⟩
       case measure=>simp[intOf];omega
      ·have C:=aa (kh k l (by rw[qL,dN l];omega));have c4:((s[k].toNat:Int)!=95)=true:=by simp;omega
       have c7:decide ((s[k].toNat:Int)<=57)=false:=decide_eq_false (by omega);have c8:decide ((s[k].toNat:Int)<=122)=false:=decide_eq_false (by omega);clear I R;go_wp2;go_ret;exact⟨aC (bw C),rfl⟩
   ·go_wp2;go_ret;exact⟨aC (tI h1 h2 (fun j hj=>bw T j (by omega))),rfl⟩
def Bo(c:Int):Bool:=decide (97<=c)&&decide (c<=122)
def CO(c:Int):Bool:=decide (48<=c)&&decide (c<=57)
theorem iX(c:Int)(w:World):Calls Tryz.prog 246 #[.int .u8 c] w fun e w'=>e=.returned (.bool (Bo c))/\w'=w:=by
 by_cases j:97<=c;·by_cases l:c<=122;all_goals go_enter Tryz.func246,Tryz.ntmps246;go_wp2;go_ret;exact⟨aC (by simp[Bo,j,l]),rfl⟩
 ·go_enter Tryz.func246,Tryz.ntmps246;go_wp2;go_ret;exact⟨aC (by rw[Bo,decide_eq_false (show¬97<=c by omega)];rfl),rfl⟩
theorem rH(c:Int)(w:World):Calls Tryz.prog 247 #[.int .u8 c] w fun e w'=>e=.returned (.bool (CO c))/\w'=w:=by
 by_cases j:48<=c;·by_cases l:c<=57;all_goals go_enter Tryz.func247,Tryz.ntmps247;go_wp2;go_ret;exact⟨aC (by simp[CO,j,l]),rfl⟩
 ·go_enter Tryz.func247,Tryz.ntmps247;go_wp2;go_ret;exact⟨aC (by rw[CO,decide_eq_false (show¬48<=c by omega)];rfl),rfl⟩
theorem o8(f:Bool)(c:Int):sO f c=(Bo c||(!f&&(CO c||c==95))):=rfl
theorem lS(s:ByteArray)(w:World)(hs:s.size<=maxLen):Calls Tryz.prog 207 #[.string s] w fun e w'=>e=.returned (.bool (cA s))/\w'=w:=by
 unfold maxLen at hs;by_cases h:s.size<1\/20<s.size;·
  have hf:=aa (qb h);rcases h with h|h;·have g:((s.size:Int)==0)=true:=beq_iff_eq.2 (by omega);go_enter Tryz.func207,Tryz.ntmps207;go_wp2_with fail;go_ret;exact⟨aC (bw hf),rfl⟩
  ·have g:((s.size:Int)==0)=false:=beq_eq_false_iff_ne.2 (by omega);go_enter Tryz.func207,Tryz.ntmps207;go_wp2_with fail;go_ret;exact⟨aC (bw hf),rfl⟩
 ·have U:1<=s.size:=by omega
  have h2:s.size<=20:=by omega
  have g:((s.size:Int)==0)=false:=beq_eq_false_iff_ne.2 (by omega);have g2:decide (20<(s.size:Int))=false:=decide_eq_false (by omega);have g3:0<s.size:=by omega
  clear h;cases hl:Bo (s[0].toNat:Int);·have C:=aa (kh (s:=s) 0 g3 (by rw[o8,dN g3,hl];rfl));have l:=aa hl;clear hl;go_enter Tryz.func207,Tryz.ntmps207;go_wp2_with(go_at_call 246;refine(iX _ _).mono ?_;rintro e w'⟨rfl,rfl⟩;rw[bw l]);go_ret;exact⟨aC (bw C),rfl⟩
  ·have l:=aa hl;have C:Hid (sO (0==0) (fh s 0)=true):=aa (by rw[o8,dN g3,hl];rfl);clear hl;go_enter Tryz.func207,Tryz.ntmps207;go_wp2_with(go_at_call 246;refine(iX _ _).mono ?_;rintro e w'⟨rfl,rfl⟩;rw[bw l]);go_loop[3](fun i=>∃k:Nat,1<=k/\k<=s.size/\i=.int .i64 k/\∀j,j<k->sO (j==0) (fh s j)=true)(fun i=>s.size-(intOf i).toNat);case atStart=>exact⟨1,Nat.le_refl _,U,rfl,fun j h=>by rw[show j=0 from by omega];exact bw C⟩
   case round=>
    obtain⟨k,ab,hk,rfl,J⟩:=hrel;have T:=aa J;clear J C l;by_cases I:k<s.size;·
     have P:(k==0)=false:=beq_eq_false_iff_ne.2 (by omega);cases hl:Bo (s[k].toNat:Int);·
      cases hd:CO (s[k].toNat:Int);·
       cases hu:((s[k].toNat:Int)==95);·
        have C:=aa (kh (s:=s) k I (by rw[o8,dN I,hl,hd,hu,P];rfl));have l:=aa hl;have R:=aa hd;have c4:((s[k].toNat:Int)!=95)=true:=by rw[bne,hu];rfl
        clear hl hd hu P;go_wp2_with(first|(go_at_call 246;refine(iX _ _).mono ?_;rintro e w'⟨rfl,rfl⟩;rw[bw l])|(go_at_call 247;refine(rH _ _).mono ?_;rintro e w'⟨rfl,rfl⟩;rw[bw R]));go_ret;exact⟨aC (bw C),rfl⟩
       ·have C:Hid (sO (k==0) (fh s k)=true):=aa (by rw[o8,dN I,hl,hd,hu,P];rfl);have l:=aa hl;have R:=aa hd;have c4:((s[k].toNat:Int)!=95)=false:=by rw[bne,hu];rfl
        clear hl hd hu P;go_wp2_with(first|(go_at_call 246;refine(iX _ _).mono ?_;rintro e w'⟨rfl,rfl⟩;rw[bw l])|(go_at_call 247;refine(rH _ _).mono ?_;rintro e w'⟨rfl,rfl⟩;rw[bw R]));go_round;case rel=>exact⟨k+1,by omega,by omega,by go_num,lV (bw T) (bw C)⟩
        case measure=>simp[intOf];omega
      ·have C:Hid (sO (k==0) (fh s k)=true):=aa (by rw[o8,dN I,hl,hd,P];rfl);have l:=aa hl;have R:=aa hd;clear hl hd P;go_wp2_with(first|(go_at_call 246;refine(iX _ _).mono ?_;rintro e w'⟨rfl,rfl⟩;rw[bw l])|(go_at_call 247;refine(rH _ _).mono ?_;rintro e w'⟨rfl,rfl⟩;rw[bw R]));go_round;case rel=>exact⟨k+1,by omega,by omega,by go_num,lV (bw T) (bw C)⟩
       case measure=>simp[intOf];omega
     ·have C:Hid (sO (k==0) (fh s k)=true):=aa (by rw[o8,dN I,hl];rfl);have l:=aa hl;clear hl P;go_wp2_with(first|(go_at_call 246;refine(iX _ _).mono ?_;rintro e w'⟨rfl,rfl⟩;rw[bw l]));go_round;case rel=>exact⟨k+1,by omega,by omega,by go_num,lV (bw T) (bw C)⟩
      case measure=>simp[intOf];omega
    ·go_wp2;go_ret;exact⟨aC (tI U h2 (fun j hj=>bw T j (by omega))),rfl⟩
def sE(n:Int):Bool:=decide (0<=n)&&decide (n<=2)
def ig(m:aF):Bool:=cA m.cE&&(cA m.to&&(cA m.label&&(!(m.cE.toList==m.to.toList)&&sE m.sort)))
def eO(f t:ByteArray)(m:aF):Bool:=m.cE.toList==f.toList&&m.to.toList==t.toList
def fI(f t:ByteArray)(l:List aF):Nat:=l.countP (eO f t)
def dX(l:List aF):Bool:=decide (l.length<=36)&&l.all fun m=>ig m&&decide (fI m.cE m.to l<=3)
theorem th{a b:ByteArray}(h:a.toList=b.toList):a=b:=by rw[Go.ByteArray.toList_eq,Go.ByteArray.toList_eq]at h;apply ByteArray.ext;exact Array.ext' h
theorem lT{f t:ByteArray}{m:aF}:eO f t m=true↔m.cE=f/\m.to=t:=by simp only[eO,Bool.and_eq_true,beq_iff_eq];exact⟨fun h=>⟨th h.1,th h.2⟩,fun h=>by rw[h.1,h.2];exact⟨rfl,rfl⟩⟩
theorem mW(m:aF):eO m.cE m.to m=true:=lT.2 ⟨rfl,rfl⟩
theorem nO(f t:ByteArray)(a b:List aF):fI f t (a++b)=fI f t a+fI f t b:=List.countP_append
theorem qY(f t:ByteArray)(m:aF):fI f t [m]=if eO f t m then 1 else 0:=by simp[fI,List.countP_cons]
theorem zy(f t:ByteArray)(l:List aF):fI f t l<=l.length:=List.countP_le_length
theorem AW(f t:ByteArray)(l:List aF)(k:Nat):fI f t (l.take k)<=fI f t l:=by have:=nO f t (l.take k) (l.drop k);rw[List.take_append_drop]at this;omega
theorem tj(f t:ByteArray){l:List aF}{k:Nat}(h:k<l.length):fI f t (l.take (k+1))=fI f t (l.take k)+if eO f t l[k]then 1 else 0:=by rw[List.take_succ_eq_append_getElem h,nO,qY]
theorem xf{l:List aF}(h:36<l.length):dX l=false:=by rw[dX,decide_eq_false (by omega)];rfl
theorem Aa{l:List aF}{m:aF}(j:m∈l)(h:ig m=false):dX l=false:=by
 have:(l.all fun m=>ig m&&decide (fI m.cE m.to l<=3))=false:=by rw[List.all_eq_false];exact⟨m,j,by simp[h]⟩
 rw[dX,this,Bool.and_false]
theorem xe{l:List aF}{m:aF}(j:m∈l)(h:3<fI m.cE m.to l):dX l=false:=by
 have:(l.all fun m=>ig m&&decide (fI m.cE m.to l<=3))=false:=by rw[List.all_eq_false];exact⟨m,j,by simp;intro _;omega⟩
 rw[dX,this,Bool.and_false]
theorem Ab{l:List aF}(C:l.length<=36)(I:∀m∈l,ig m=true)(J:∀m∈l,fI m.cE m.to l<=3):dX l=true:=by rw[dX,decide_eq_true C,Bool.true_and,List.all_eq_true];intro m j;rw[I m j,decide_eq_true (J m j)];rfl
theorem z8{l:List aF}(h:dX l=true):l.length<=36:=by simp only[dX,Bool.and_eq_true,decide_eq_true_eq]at h;exact h.1
theorem FD{q:Bool}{n:Int}(j:sE n=q)(w:World):Calls Tryz.prog 211 #[.int .i64 n] w fun e w'=>e=.returned (.bool q)/\w'=w:=by have l:=aa j;clear j;by_cases h:0<=n;all_goals go_enter Tryz.func211,Tryz.ntmps211;go_wp2_with fail;go_ret;exact⟨aC (by rw[<-l.out];simp[sE, *];try omega),rfl⟩
theorem Jw(n lo hi:Int)(w:World):Calls Tryz.prog 105 #[.int .i64 n,.int .i64 lo,.int .i64 hi] w fun e w'=>e=.returned (.bool (decide (lo<=n)&&decide (n<=hi)))/\w'=w:=by by_cases h:lo<=n;all_goals go_enter Tryz.func105,Tryz.ntmps105;go_wp2_with fail;go_ret;refine⟨aC ?_,rfl⟩;simp[*];try omega
theorem Gv{q:Bool}{n:Int}(j:sE n=q)(w:World):Calls Tryz.prog 178 #[.int .i64 n] w fun e w'=>e=.returned (.bool q)/\w'=w:=by subst j;go_enter Tryz.func178,Tryz.ntmps178;go_wp2_with(go_at_call 105;refine(Jw _ _ _ _).mono ?_;rintro e w'⟨rfl,rfl⟩);go_ret;exact⟨aC rfl,rfl⟩
theorem jG{q:Bool}{s:ByteArray}(h:cA s=q)(j:s.size<=maxLen)(w:World):Calls Tryz.prog 207 #[.string s] w fun e w'=>e=.returned (.bool q)/\w'=w:=by subst h;exact lS s w j
theorem vk{q:Bool}{s:ByteArray}(h:cA s=q)(j:s.size<=maxLen)(w:World):Calls Tryz.prog 177 #[.string s] w fun e w'=>e=.returned (.bool q)/\w'=w:=by subst h;exact uc s w j
section
open Go.RowKit Go.ChangeShapes
theorem Tryz.zH:Tryz.prog.globalNamed "loop.example/g00574/impl.errNothing"=some 3:=by kernel_rfl
theorem Tryz.zI:Tryz.prog.globalNamed "loop.example/g00574/impl.errTooLong"=some 0:=by kernel_rfl
theorem Tryz.zJ:Tryz.prog.globalNamed "loop.example/g00574/impl.errNotRight"=some 1:=by kernel_rfl
theorem Tryz.zK:Tryz.prog.globalNamed "loop.example/g00574/impl.errNoRoom"=some 2:=by kernel_rfl
theorem Tryz.Ii:(Tryz.prog.globals[3]?).map (·.type)=some 256:=by kernel_rfl
theorem Tryz.Ij:(Tryz.prog.globals[0]?).map (·.type)=some 256:=by kernel_rfl
theorem Tryz.Ik:(Tryz.prog.globals[1]?).map (·.type)=some 256:=by kernel_rfl
theorem Tryz.Il:(Tryz.prog.globals[2]?).map (·.type)=some 256:=by kernel_rfl
theorem Tryz.tt:Tryz.prog.cellsOf 424=1:=by kernel_rfl
theorem Tryz.ud:Tryz.prog.cellsOf 9=1:=by kernel_rfl
theorem Tryz.Hb: "*"++ "errors.errorString"= "*errors.errorString":=by decide
theorem Tryz.zD(u:TypeId)(h:Tryz.prog.typeName? 3 u=some "*errors.errorString"):u=398:=typeName_ptr_named (nm:= "errors.errorString") (by rw[Tryz.Hb];kernel_rfl) (by kernel_rfl) (by decide) u (by rw[Tryz.Hb];exact h)
theorem kC{W:World}{a b:Addr}{s t:ByteArray}{x y:List UInt8}(C:W.cell? a=some (.string s))(j:W.cell? b=some (.string t))(I:s.data.toList=x)(J:t.data.toList=y)(l:x≠y):a≠b:=by rintro rfl;rw[C]at j;injection j with j;injection j with j;exact l (by rw[<-I,<-J,j])
theorem vh{W:World}(h:laidMet Tryz.prog [("loop.example/g00574/impl.errTooLong",Rows.laid_loop_example_g00574_impl_errTooLong),("loop.example/g00574/impl.errNotRight",Rows.laid_loop_example_g00574_impl_errNotRight),("loop.example/g00574/impl.errNothing",Rows.laid_loop_example_g00574_impl_errNothing),("loop.example/g00574/impl.errNoRoom",Rows.laid_loop_example_g00574_impl_errNoRoom)] W):∃E,dS W E:=by
 have h2:=h.tail.tail;unfold Rows.laid_loop_example_g00574_impl_errTooLong Rows.laid_loop_example_g00574_impl_errNotRight at h;unfold Rows.laid_loop_example_g00574_impl_errNothing Rows.laid_loop_example_g00574_impl_errNoRoom at h2;obtain⟨aL,aR,sL,sR,cL,cR,tL,tR,vL,vR,j,J,-,I,T,-,U,bL,bR⟩:=laid_sentinels2 h Tryz.zI Tryz.Ij Tryz.zJ Tryz.Ik Tryz.underlying256 Tryz.zD Tryz.underlying398 Tryz.underlying424 rfl rfl Tryz.underlying9 Tryz.tt Tryz.ud;obtain⟨aN,aM,sN,sM,cN,cM,tN,tM,vN,vM,C,R,-,l,P,-,ab,bN,bM⟩:=laid_sentinels2 h2 Tryz.zH Tryz.Ii Tryz.zK Tryz.Il Tryz.underlying256 Tryz.zD Tryz.underlying398 Tryz.underlying424 rfl rfl Tryz.underlying9 Tryz.tt Tryz.ud;refine⟨⟨aN,aL,aR,aM⟩,?_,?_,?_,?_,⟨_,_,bN⟩,⟨_,_,bL⟩,⟨_,_,bR⟩,⟨_,_,bM⟩,?_,?_,ab,U,?_,?_⟩;·simpa using World.var?_cell Tryz.zH vN 0
 ·simpa using World.var?_cell Tryz.zI vL 0
 ·simpa using World.var?_cell Tryz.zJ vR 0
 ·simpa using World.var?_cell Tryz.zK vM 0
 ·exact kC C j R J (by decide)
 ·exact kC C I R T (by decide)
 ·exact kC j l J P (by decide)
 ·exact kC I l T P (by decide)
theorem Cg{H:Type}{enc:TypeId×Value->H}{P:Program}{w:World}{spare:Nat->Bool}{a b c d:String}{j:List (DataW H)}{ps:List MemPlace}(h:DataW.TrodVars enc P w spare [a,b,c,d] j ps):∃g1 g2 g3 g4,j=[g1,g2,g3,g4]:=by cases j with|nil=>exact h.elim|cons g1 j=>obtain⟨_,_,_,_,_,_,_,_,_,_,h,_⟩:=h;cases j with|nil=>exact h.elim|cons g2 j=>obtain⟨_,_,_,_,_,_,_,_,_,_,h,_⟩:=h;obtain⟨_,_,_,_,g3,_,_,_,_,_,g4,_,rfl,_⟩:=trodVars_two h;exact⟨g1,g2,g3,g4,rfl⟩
end
theorem eG(w:World)(cs:List Value)(t:TypeId)(j:Nat)(u:Value)(h:cs[j]?=some u):(w.alloc (.cells cs.toArray t)).cell? (Addr.add ⟨w.heap.size,0,none⟩ j)=some u:=by
 have e:(w.alloc (.cells cs.toArray t)).heap[w.heap.size]?=some (.cells cs.toArray t):=b6 _ _ _ rfl;have l:Addr.add ⟨w.heap.size,0,none⟩ j=⟨w.heap.size,j,none⟩:=by unfold Addr.add;split<;>simp_all
 rw[l];simp only[World.cell?];rw[e];simpa using h
theorem Tryz.rE:(Tryz.prog.info? 9).map (fun i=>(i.zero,i.size,i.bytes))=some (some (.string ByteArray.empty),1,16):=by kernel_rfl
