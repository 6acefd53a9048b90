import Derived.Test.YtdiiiijkhpdcbaaGreatDoorRX05
namespace Go.Proofs.YtdiiiijkhpdcbaaGreatDoor
open Go.RowKit
set_option linter.unusedSimpArgs false
set_option linter.unusedVariables false
set_option maxHeartbeats 1000000
set_option maxRecDepth 100000
structure Nd where
 op:Int
 name:ByteArray
 peer:ByteArray
 many:Int
 sort:Int
def Nd.val(n:Nd):Value:=.agg #[.int .i64 n.op,.string n.name,.string n.peer,.int .i64 n.many,.int .i64 n.sort]
def Nd.ok(n:Nd):Prop:=n.name.size<=maxLen/\n.peer.size<=maxLen
def cX(t:ByteArray):Bool:=ct t&&(!(t.toList==[101,110,100])&&!(t.toList==[114,101,99]))
def ll(n:Int):Bool:=decide (0<=n)&&decide (n<=2)
def jQ(n:Int):Bool:=decide (1<=n)&&decide (n<=4)
def iR(n:Nd):Bool:=n.op==2&&n.peer.toList==[]&&n.many==0&&n.sort==0&&cX n.name
def oR(n:Nd):Bool:=n.op==1&&n.peer.toList==[]&&n.many==0&&n.sort==0
def iu(n:Nd):Bool:=n.op==0&&n.name.toList==[]&&n.peer.toList==[]&&n.many==0&&n.sort==0
def nK(n:Nd):Bool:=if n.op==3 then cX n.name&&!(n.name.toList==n.peer.toList)else n.name.toList==[]
def fQ(n:Nd):Bool:=(n.op==3||n.op==5||n.op==6)&&n.sort==0&&jQ n.many&&cX n.peer&&nK n
def bC(part:Bool)(n:Nd):Bool:=cX n.peer&&jQ n.many&&n.sort==0&&(if part then n.name.toList==[]&&(n.op==5||n.op==6)else n.op==3&&cX n.name&&!(n.name.toList==n.peer.toList))
def eE(n:Nd):Bool:=n.op==4&&n.peer.toList==[]&&n.many==0&&cX n.name&&ll n.sort
theorem aO(w:World)(o:Obj):ZW w (w.alloc o):=(Below.refl _ _).alloc (Nat.le_refl _) o
theorem kZ(t:ByteArray)(w:World)(C:t.size<=maxLen):Calls Tryz.prog 294 #[.string t] w fun e w'=>e=.returned (.bool (cX t))/\w'=w:=by obtain⟨b,l⟩:∃b,ct t=b:=⟨_,rfl⟩;have j:=aa l;have I:=aa C;clear l C;cases b;all_goals go_in;go_wp2_with(go_at_call 207;refine(lX t _ (bw I)).mono ?_;rintro e w'⟨rfl,rfl⟩;rw[bw j]);all_goals go_ret;refine⟨aD ?_,rfl⟩;rw[cX,bw j];simp[*]
theorem iy(t:ByteArray)(w:World)(C:t.size<=maxLen):Calls Tryz.prog 259 #[.string t] w fun e w'=>e=.returned (.bool (cX t))/\w'=w:=by obtain⟨b,l⟩:∃b,ct t=b:=⟨_,rfl⟩;have j:=aa l;have I:=aa C;clear l C;cases b;all_goals go_in;go_wp2_with(go_at_call 177;refine(uz t _ (bw I)).mono ?_;rintro e w'⟨rfl,rfl⟩;rw[bw j]);all_goals go_ret;refine⟨aD ?_,rfl⟩;rw[cX,bw j];simp[*]
theorem J2(n lo hi:Int)(w:World):Calls Tryz.prog 105 #[.int .i64 n,.int .i64 lo,.int .i64 hi] w fun e w'=>e=.returned (.bool (decide (lo<=n)&&decide (n<=hi)))/\w'=w:=by by_cases h:lo<=n;all_goals go_in;go_wp2;go_ret;refine⟨aD ?_,rfl⟩;simp[*];try omega
theorem vp(n:Int)(w:World):Calls Tryz.prog 178 #[.int .i64 n] w fun e w'=>e=.returned (.bool (ll n))/\w'=w:=by go_in;go_wp2_with(go_at_call 105;refine(J2 _ _ _ _).mono ?_;rintro e w'⟨rfl,rfl⟩);go_ret;exact⟨aD rfl,rfl⟩
theorem zj(n:Int)(w:World):Calls Tryz.prog 211 #[.int .i64 n] w fun e w'=>e=.returned (.bool (ll n))/\w'=w:=by by_cases h:0<=n;all_goals go_in;go_wp2;go_ret;exact⟨aD (by simp[ll, *];try omega),rfl⟩
theorem l9(n:Nd)(w:World)(l:n.ok):Calls Tryz.prog 265 #[n.val] w fun e w'=>e=.returned (.bool (iR n))/\ZW w w':=by have j:iR n=(n.op==2&&n.peer.toList==[]&&n.many==0&&n.sort==0&&cX n.name):=rfl;have C:=aa j;have I:=aa l.1;clear j l;unfold Nd.val;go_in;go_wp2_with(go_at_call 294;refine(kZ n.name _ (bw I)).mono ?_;rintro e w'⟨rfl,rfl⟩);all_goals go_ret;refine⟨aD ?_,aO _ _⟩;rw[bw C];simp[*]
theorem x7(n:Nd)(w:World)(C:n.ok):Calls Tryz.prog 295 #[n.val] w fun e w'=>e=.returned (.bool (nK n))/\ZW w w':=by
 have J:=aa (show nK n=(if n.op==3 then cX n.name&&!(n.name.toList==n.peer.toList)else n.name.toList==[])from rfl);obtain⟨b,l⟩:∃b,cX n.name=b:=⟨_,rfl⟩;have j:=aa l;have P:=aa C.1;obtain⟨c,R⟩:∃c,(n.op==3)=c:=⟨_,rfl⟩;have I:=aa R;clear l C;unfold Nd.val;cases b;all_goals cases c
 all_goals go_in;go_wp2_with(go_at_call 294;refine(kZ n.name _ (bw P)).mono ?_;rintro e w'⟨rfl,rfl⟩;rw[bw j]);all_goals go_ret;refine⟨aD ?_,aO _ _⟩;rw[bw J,bw j,bw I];simp[*]
theorem zw(n:Nd)(w:World)(P:n.ok)(l:n.op=3\/n.op=5\/n.op=6):Calls Tryz.prog 269 #[n.val] w fun e w'=>e=.returned (.bool (fQ n))/\ZW w w':=by
 have HR:Hid (fQ n=(n.sort==0&&jQ n.many&&cX n.peer&&nK n)):=aa (by rcases l with h|h|h<;>simp[fQ,h]);obtain⟨b,J⟩:∃b,nK n=b:=⟨_,rfl⟩;obtain⟨c,T⟩:∃c,cX n.peer=c:=⟨_,rfl⟩;have U:=aa J;have C:Hid (nK ⟨n.op,n.name,n.peer,n.many,0⟩=b):=aa J;have R:=aa T;have HO:=aa P;have HT:=aa P.2;clear J T P l;unfold Nd.val;cases b;all_goals cases c
 all_goals
  go_in;go_wp2_with(first|(go_at_call 295;refine(x7 ⟨n.op,n.name,n.peer,n.many,0⟩ _ (bw HO)).mono ?_;rintro e w'⟨rfl,j⟩;rw[C.out];have I:=aa j;clear j)|(go_at_call_of 294 n.peer;refine(kZ n.peer _ (bw HT)).mono ?_;rintro e w'⟨rfl,rfl⟩;rw[bw R]));all_goals
   go_ret;refine⟨aD ?_,?_⟩;·rw[bw HR,bw U,bw R];simp[jQ, *];try omega
   ·first|exact(aO _ _).trans (I.out.mono (aO _ _).size)|exact aO _ _
theorem mM(n:Nd)(w:World)(C:n.ok):Calls Tryz.prog 296 #[n.val] w fun e w'=>e=.returned (.bool (eE n))/\ZW w w':=by have I:=aa (show eE n=(n.op==4&&n.peer.toList==[]&&n.many==0&&cX n.name&&ll n.sort)from rfl);obtain⟨b,l⟩:∃b,cX n.name=b:=⟨_,rfl⟩;have j:=aa l;have J:=aa C.1;clear l C;unfold Nd.val;cases b;all_goals go_in;go_wp2_with(first|(go_at_call 294;refine(kZ n.name _ (bw J)).mono ?_;rintro e w'⟨rfl,rfl⟩;rw[bw j])|(go_at_call 211;refine(zj n.sort _).mono ?_;rintro e w'⟨rfl,rfl⟩));all_goals go_ret;refine⟨aD ?_,aO _ _⟩;rw[bw I,bw j];simp[*]
theorem ze(part:Bool)(bx:Nat)(n:Nd)(w:World)(j:n.ok)(hx:w.cell? ⟨bx,1,none⟩=some (.bool part)):Calls Tryz.prog 260 #[.pointer (some ⟨bx,0,none⟩),n.val] w fun e w'=>e=.returned (.bool (bC part n))/\ZW w w':=by
 have T:=aa (show bC part n=(cX n.peer&&jQ n.many&&n.sort==0&&(if part then n.name.toList==[]&&(n.op==5||n.op==6)else n.op==3&&cX n.name&&!(n.name.toList==n.peer.toList)))from rfl);obtain⟨b,I⟩:∃b,cX n.name=b:=⟨_,rfl⟩;obtain⟨c,J⟩:∃c,cX n.peer=c:=⟨_,rfl⟩;obtain⟨d,hd⟩:∃d,(decide (1<=n.many)&&decide (n.many<=4))=d:=⟨_,rfl⟩;have l:=aa I;have C:=aa J;have P:=aa hd;have R:=aa (show jQ n.many=d from hd);have U:=aa j.1;have HT:=aa j.2;have ab:bx<w.heap.size:=World.block_lt_of_cell? w _ hx;clear I J hd j;unfold Nd.val;cases b;all_goals cases c
 all_goals cases d
 all_goals cases part
 all_goals go_in;go_wp2_with(first|(go_at_call_of 259 n.name;refine(iy n.name _ (bw U)).mono ?_;rintro e w'⟨rfl,rfl⟩;rw[bw l])|(go_at_call_of 259 n.peer;refine(iy n.peer _ (bw HT)).mono ?_;rintro e w'⟨rfl,rfl⟩;rw[bw C])|(go_at_call 105;refine(J2 _ _ _ _).mono ?_;rintro e w'⟨rfl,rfl⟩;rw[bw P]));all_goals go_ret;refine⟨aD ?_,aO _ _⟩;rw[bw T,bw l,bw C,bw R];simp[*];try simp_all
def cZ(w:World)(b o:Nat)(n:Nd):Prop:=w.cell? ⟨b,o,none⟩=some (.int .i64 n.op)/\w.cell? ⟨b,o+1,none⟩=some (.string n.name)/\w.cell? ⟨b,o+2,none⟩=some (.string n.peer)/\w.cell? ⟨b,o+3,none⟩=some (.int .i64 n.many)/\w.cell? ⟨b,o+4,none⟩=some (.int .i64 n.sort)
def cV(w:World)(b:Nat):Nat->List Nd->Prop|_,[]=>True|o,n::l=>cZ w b o n/\cV w b (o+5) l
theorem cZ.carry{w w':World}{b o:Nat}{n:Nd}(h:cZ w b o n){B:Nat}(j:b<B)(l:Below B w w'):cZ w' b o n:=by obtain⟨C,I,J,P,R⟩:=h;exact⟨(l.cell (p:=⟨b,_,none⟩) j).trans C,(l.cell (p:=⟨b,_,none⟩) j).trans I,(l.cell (p:=⟨b,_,none⟩) j).trans J,(l.cell (p:=⟨b,_,none⟩) j).trans P,(l.cell (p:=⟨b,_,none⟩) j).trans R⟩
theorem cZ.lt{w:World}{b o:Nat}{n:Nd}(h:cZ w b o n):b<w.heap.size:=World.block_lt_of_cell? w _ h.1
theorem cV.carry{w w':World}{b B:Nat}(j:b<B)(C:Below B w w'):∀{l:List Nd}{o:Nat},cV w b o l->cV w' b o l|[],_,_=>trivial|_::_,_,h=>⟨h.1.carry j C,cV.carry j C h.2⟩
theorem cV.lt{w:World}{b o:Nat}{n:Nd}{l:List Nd}(h:cV w b o (n::l)):b<w.heap.size:=h.1.lt
theorem cV.get{w:World}{b:Nat}:∀{l:List Nd}{o:Nat},cV w b o l->∀i(h:i<l.length),cZ w b (o+i*5) l[i]|_::_,_,h,0,_=>by simpa using h.1|_::l,o,h,i+1,hi=>by have:=h.2.get i (by simpa using hi);rw[show o+5+i*5=o+(i+1)*5 from by omega]at this;simpa using this
theorem cV.drop{w:World}{b:Nat}:∀{l:List Nd}{o:Nat},cV w b o l->∀i,cV w b (o+i*5) (l.drop i)|_,_,h,0=>by simpa using h|[],_,_,i+1=>by simp[cV]|_::l,o,h,i+1=>by have:=h.2.drop i;rw[show o+5+i*5=o+(i+1)*5 from by omega]at this;simpa using this
def bF(w:World)(B:Nat)(v:Value)(ns:List Nd):Prop:=∃j cap,v=.slice j ns.length cap/\ns.length<=cap/\(cap<=9223372036854775807/\ns.length<=4294967296)/\(ns≠[]->∃b o,j=some ⟨b,o,none⟩/\b<B/\cV w b o ns)
theorem bF.carry{w w':World}{B:Nat}{v:Value}{ns:List Nd}(h:bF w B v ns)(T:Below B w w'):bF w' B v ns:=by obtain⟨C,cap,I,J,P,R⟩:=h;refine⟨C,cap,I,J,P,fun l=>?_⟩;obtain⟨b,o,e,j,U⟩:=R l;exact⟨b,o,e,j,U.carry j T⟩
def cB(w:World):Value->List Nd->Prop|p,[]=>p=.pointer none|p,n::st=>∃b q,p=.pointer (some ⟨b,0,none⟩)/\cZ w b 0 n/\w.cell? ⟨b,5,none⟩=some (.int .i64 (st.length+1:Nat))/\w.cell? ⟨b,6,none⟩=some q/\cB w q st
theorem cB.carry{w w':World}(j:ZW w w'):∀{st:List Nd}{p:Value},cB w p st->cB w' p st|[],_,h=>h|_::_,_,⟨b,q,e,l,C,I,h⟩=>⟨b,q,e,l.carry l.lt j,(j.cell (p:=⟨b,_,none⟩) l.lt).trans C,(j.cell (p:=⟨b,_,none⟩) l.lt).trans I,cB.carry j h⟩
theorem cB.shape{w:World}{st:List Nd}{p:Value}(h:cB w p st):∃u,p=.pointer u:=by cases st with|nil=>exact⟨_,h⟩|cons=>obtain⟨b,q,e,_⟩:=h;exact⟨_,e⟩
def tU(st:List Nd):Bool:=st.length==10
def bW(st:List Nd)(name:ByteArray):Bool:=st.any fun n=>n.op==2&&n.name.toList==name.toList
def eR(j:Bool):List Nd->ByteArray->Bool|[],_=>false|n::st,name=>if n.op==2 then(if n.name.toList==name.toList then j else eR j st name)else eR true st name
theorem vf(st:List Nd)(p:Value)(w:World)(j:cB w p st):Calls Tryz.prog 267 #[p] w fun e w'=>e=.returned (.bool (tU st))/\w'=w:=by
 cases st with
  |nil=>cases j;go_in;go_wp2;go_ret;exact⟨aD rfl,rfl⟩|cons n st=>
   obtain⟨b,q,rfl,C,I,l,h⟩:=j;clear C l h;go_in;go_wp2;go_ret;refine⟨aD ?_,rfl⟩;rw[tU,List.length_cons];cases h:((st.length:Int)+1==10);·rw[beq_eq_false_iff_ne]at h|-;omega
   ·rw[beq_iff_eq]at h|-;omega
theorem Ay(st:List Nd)(p:Value)(n:Nd)(w:World)(j:cB w p st)(l:st.length<1000):Calls Tryz.prog 268 #[p,n.val] w fun e w'=>∃q,e=.returned q/\cB w' q (n::st)/\ZW w w':=by
 have I:=aa j;have R:=aa l;cases st with
  |nil=>cases j;unfold Nd.val;go_in;go_wp2;go_ret;refine⟨_,rfl,⟨_,_,rfl,⟨?_,?_,?_,?_,?_⟩,?_,?_,rfl⟩,(aO _ _).trans (((aO _ _)).mono (by simp))⟩;all_goals simp|cons n' st=>
   obtain⟨b,q,rfl,C,T,J,h⟩:=j;have P:=C.lt;clear C J h;unfold Nd.val;go_in;have U:wrap64 ((st.length:Int)+1+1)=(st.length:Int)+1+1:=by simp only[List.length_cons]at l;simp only[wrap64];omega
   go_wp2;go_region;go_wp2;go_ret;refine⟨_,rfl,⟨w.heap.size+1,.pointer (some ⟨b,0,none⟩),rfl,⟨?_,?_,?_,?_,?_⟩,?_,?_,?_⟩,((aO _ _).trans (((aO _ _)).mono (by simp))).drew⟩;case refine_8=>exact cB.carry ((aO _ _).trans (((aO _ _)).mono (by simp))).drew I.out
   all_goals simp
   all_goals omega
theorem sB(st:List Nd)(p:Value)(name:ByteArray)(w:World)(l:cB w p st):Calls Tryz.prog 266 #[p,.string name] w fun e w'=>e=.returned (.bool (bW st name))/\w'=w:=by
 obtain⟨u,rfl⟩:=l.shape;have R:=aa l;clear l;go_in;go_wp2;go_loopg[0]st.length(fun k p wr=>wr=w/\∃j,j.length=k/\cB w p j/\bW j name=bW st name);case atStart=>exact⟨rfl,st,rfl,R.out,rfl⟩
 case round=>
  obtain⟨rfl,j,J,l,I⟩:=hrel;have P:=aa J;have C:=aa I;clear J I;cases j with
   |nil=>cases l;go_wp2;go_ret;exact⟨aD C.out.symm,rfl⟩|cons n j=>
    obtain⟨b,q,rfl,⟨h0,h1,U,h3,h4⟩,h5,h6,h⟩:=l;obtain⟨u',rfl⟩:=h.shape;have T:=aa h;clear h U h3 h4 h5;go_wp2;all_goals
     first
      |(go_ret;refine⟨aD ?_,rfl⟩;rw[<-C.out];simp_all[bW])|
       (
        go_roundg j.length;case measure=>have:=P.out;simp at this;omega
        case rel=>exact⟨rfl,j,rfl,T.out,by rw[<-C.out];simp_all[bW]⟩)
theorem I7(st:List Nd)(p:Value)(name:ByteArray)(w:World)(l:cB w p st):Calls Tryz.prog 264 #[p,.string name] w fun e w'=>e=.returned (.bool (eR false st name))/\w'=w:=by
 obtain⟨u,rfl⟩:=l.shape;have R:=aa l;clear l;go_in;go_wp2;go_loopg[0,5]st.length(fun k p said wr=>wr=w/\∃j b,j.length=k/\said=.bool b/\cB w p j/\eR b j name=eR false st name);case atStart=>exact⟨rfl,st,false,rfl,rfl,R.out,rfl⟩
 case round=>
  obtain⟨rfl,j,b0,J,rfl,l,I⟩:=hrel;have P:=aa J;have C:=aa I;clear J I;cases j with
   |nil=>cases l;go_wp2;go_ret;exact⟨aD C.out.symm,rfl⟩|cons n j=>
    obtain⟨b,q,rfl,⟨h0,h1,U,h3,h4⟩,h5,h6,h⟩:=l;obtain⟨u',rfl⟩:=h.shape;have T:=aa h;clear h U h3 h4 h5;go_wp2;all_goals
     first
      |(go_ret;refine⟨aD ?_,rfl⟩;rw[<-C.out];simp_all[eR])|
       (
        go_roundg j.length;case measure=>have:=P.out;simp at this;omega
        case rel=>exact⟨rfl,j,_,rfl,rfl,T.out,by rw[<-C.out];simp_all[eR]⟩)
def cw(ls:List ByteArray)(t:ByteArray):Bool:=ls.any fun s=>s.toList==t.toList
def cH(w:World)(v:Value)(ls:List ByteArray):Prop:=∃j cap,v=.slice j ls.length cap/\ls.length<=cap/\ls.length<=4294967296/\(ls≠[]->∃b o,j=some ⟨b,o,none⟩/\∀i(h:i<ls.length),w.cell? ⟨b,o+i,none⟩=some (.string ls[i]))
theorem cH.carry{w w':World}{v:Value}{ls:List ByteArray}(h:cH w v ls)(T:ZW w w'):cH w' v ls:=by obtain⟨C,cap,I,J,P,R⟩:=h;refine⟨C,cap,I,J,P,fun j=>?_⟩;obtain⟨b,o,e,l⟩:=R j;refine⟨b,o,e,fun i hi=>?_⟩;exact(T.cell (p:=⟨b,_,none⟩) (World.block_lt_of_cell? w _ (l i hi))).trans (l i hi)
theorem wL{ls:List ByteArray}{t:ByteArray}{k:Nat}(l:k<ls.length)(h:cw (ls.take k) t=false)(j:(ls[k].toList==t.toList)=false):cw (ls.take (k+1)) t=false:=by rw[cw,List.take_succ_eq_append_getElem l,List.any_append];have:(ls.take k).any (fun s=>s.toList==t.toList)=false:=h;simp[this,j]at*
theorem Ac{ls:List ByteArray}{t:ByteArray}{k:Nat}(l:k<ls.length)(j:(ls[k].toList==t.toList)=true):cw ls t=true:=by rw[cw,List.any_eq_true];exact⟨ls[k],List.getElem_mem l,j⟩
theorem eA{w:World}{base e:Nat}{v:Value}{ls:List ByteArray}(h:w.ownsRow base e 1 v ls.length (ls.map Value.string))(J:ls.length<=4294967296):cH w v ls:=by
 obtain⟨_,hv⟩:=h;rcases hv with⟨rfl,P⟩|⟨g,cap,j,rfl,hg,T,U,I,ab,l⟩;·have:ls=[]:=List.length_eq_zero_iff.1 P;subst this;exact⟨none,0,rfl,Nat.le_refl _,J,fun h=>absurd rfl h⟩
 ·refine⟨_,cap,rfl,U,J,fun _=>⟨g,0,rfl,fun i hi=>?_⟩⟩;have R:j.toList[i]?=some (.string ls[i]):=by
   have C:(j.toList.take (ls.length*1))[i]?=(ls.map Value.string)[i]?:=by rw[l]
   rw[List.getElem?_take,if_pos (by omega)]at C;rw[C];simp[hi]
  have C:j[i]?=some (.string ls[i]):=by rw[<-R];simp
  simp only[World.cell?,T];simpa using C
theorem jf{w w':World}{base e size n:Nat}{v:Value}{J:List Value}(h:w.ownsRow base e size v n J)(R:ZW w w'):w'.ownsRow base e size v n J:=by
 obtain⟨P,I⟩:=h;refine⟨P,?_⟩;rcases I with I|⟨g,cap,j,rfl,T,l,r⟩;·exact .inl I
 ·have C:g<w.heap.size:=by
   rcases Nat.lt_or_ge g w.heap.size with h|h;·exact h
   ·rw[Array.getElem?_eq_none h]at l;exact absurd l (by simp)
  exact .inr ⟨g,cap,j,rfl,T,by rw[R.block g C];exact l,r⟩
theorem gZ{w:World}{base e size n:Nat}{v:Value}{J:List Value}(h:w.ownsRow base e size v n J):∀k,v.ownBlock=some k->base<=k:=by
 obtain⟨_,I⟩:=h;rcases I with⟨rfl,_⟩|⟨g,cap,l,rfl,C,r⟩;·intro k j;cases j
 ·intro k j;cases j;exact C
theorem fD(ls:List ByteArray)(t:ByteArray)(v:Value)(w:World)(hv:cH w v ls):Calls Tryz.prog 131 #[v,.string t] w fun e w'=>e=.returned (.bool (cw ls t))/\w'=w:=by
 obtain⟨ao,cap,rfl,hc,hm,U⟩:=hv;have HR:=aa U;clear U;go_in;go_wp2;go_loop[5](fun i=>∃k:Nat,k<=ls.length/\i=.int .i64 k/\cw (ls.take k) t=false)(fun i=>ls.length-(intOf i).toNat);case atStart=>exact⟨0,Nat.zero_le _,rfl,rfl⟩
 case round=>
  obtain⟨k,hk,rfl,C⟩:=hrel;have R:=aa C;clear C;by_cases l:k<ls.length;·
   obtain⟨b,o,rfl,j⟩:=HR.out (by intro h;simp[h]at l);have J:=j k l;obtain⟨s,P⟩:∃s,s=ls[k]:=⟨_,rfl⟩;rw[<-P]at J;have I:=aa P;clear j P;cases heq:(s.toList==t.toList);all_goals have T:=aa heq
   ·go_wp2;go_round;case rel=>exact⟨k+1,by omega,by go_num,wL l R.out (by rw[<-I.out];exact T.out)⟩
    case measure=>simp[intOf];omega
   ·go_wp2;go_ret;exact⟨aD (Ac l (by rw[<-I.out];exact T.out)),rfl⟩
  ·go_wp2;go_ret;refine⟨aD ?_,rfl⟩;have:=R.out;rwa[List.take_of_length_le (by omega)]at this
theorem GS(ls:List ByteArray)(t:ByteArray)(v:Value)(w:World)(hv:cH w v ls):Calls Tryz.prog 226 #[v,.string t] w fun e w'=>∃j:Int,e=.returned (.int .i64 j)/\decide (0<=j)=cw ls t/\w'=w:=by
 obtain⟨ao,cap,rfl,hc,hm,hr⟩:=hv;have HR:=aa hr;clear hr;go_in;go_wp2;go_loop[8](fun i=>∃k:Nat,k<=ls.length/\i=.int .i64 k/\cw (ls.take k) t=false)(fun i=>ls.length-(intOf i).toNat);case atStart=>exact⟨0,Nat.zero_le _,rfl,rfl⟩
 case round=>
  obtain⟨k,hk,rfl,I⟩:=hrel;have T:=aa I;clear I;by_cases C:k<ls.length;·
   obtain⟨b,o,rfl,l⟩:=HR.out (by intro h;simp[h]at C);have P:=l k C;obtain⟨s,R⟩:∃s,s=ls[k]:=⟨_,rfl⟩;rw[<-R]at P;have J:=aa R;clear l R;cases heq:(t.toList==s.toList);all_goals have U:=aa heq
   ·go_wp2;go_round;case rel=>exact⟨k+1,by omega,by go_num,wL C T.out (by rw[<-J.out,Bool.beq_comm];exact U.out)⟩
    case measure=>simp[intOf];omega
   ·go_wp2;go_ret;exact⟨_,rfl,by rw[Ac C (by rw[<-J.out,Bool.beq_comm];exact U.out)];simp,rfl⟩
  ·go_wp2;go_ret;refine⟨_,rfl,?_,rfl⟩;have:=T.out;rw[List.take_of_length_le (by omega)]at this;rw[this];rfl
theorem ix(ls:List ByteArray)(t:ByteArray)(v:Value)(w:World)(C:cH w v ls):Calls Tryz.prog 184 #[v,.string t] w fun e w'=>e=.returned (.bool (cw ls t))/\w'=w:=by have J:=aa C;obtain⟨U,cap,rfl,P,R,T⟩:=C;clear T P R;go_in;go_wp2_with(go_at_call 226;refine(GS ls t _ _ J.out).mono ?_;rintro e w'⟨j,rfl,l,rfl⟩;have I:=aa l;clear l);go_ret;exact⟨aD I.out.symm,rfl⟩
def bA(go:List Nd->Option (List Nd)):Nat->List ByteArray->List Nd->Option (List Nd)|0,_,l=>some l|_+1,_,[]=>none|m+1,ls,n::l=>if eE n&&!cw ls n.name then match go l with|none=>none|some r=>bA go m (ls++[n.name]) r else none
def ahead(T:Nd->Bool):Nat->List Nd->List Nd->Option (List Nd)|_,_,[]=>none|0,st,n::l=>if n.op==0 then(if iu n then some l else none)else if n.op==1 then(if oR n&&eR false st n.name then some l else none)else none|f+1,st,n::l=>if n.op==0 then(if iu n then some l else none)else if n.op==1 then(if oR n&&eR false st n.name then some l else none)else if n.op==2 then(if iR n&&!bW st n.name then ahead T f (n::st) l else none)else if T n then bA (ahead T f (n::st)) n.many.toNat [] l else none
def Told(w':World)(B:Nat)(e:Ending)(r:Option (List Nd)):Prop:=∃v,e=.returned (.tuple #[v,.bool r.isSome])/\(∀l,r=some l->bF w' B v l)
def j7(f:Nat):Prop:=∀(st l:List Nd)(v p:Value)(w:World)(B:Nat),st.length+f=10->(∀n∈l,n.ok)->B<=w.heap.size->bF w B v l->cB w p st->ZC 240 #[v,p] w fun e w'=>Told w' B e (ahead fQ f st l)/\ZW w w'
theorem Tryz.mF:(Tryz.prog.info? 9).map (fun i=>(i.zero,i.size,i.bytes))=some (some (.string .empty),1,16):=by kernel_rfl
theorem rV{go:List Nd->Option (List Nd)}{m:Nat}{ls:List ByteArray}(h:0<m):bA go m ls []=none:=by cases m with|zero=>omega|succ m=>rfl
theorem jO{go:List Nd->Option (List Nd)}{m:Nat}{ls:List ByteArray}{n:Nd}{l:List Nd}(h:0<m)(j:(eE n&&!cw ls n.name)=false):bA go m ls (n::l)=none:=by cases m with|zero=>omega|succ m=>rw[bA,if_neg (by simp[j])]
theorem ph{go:List Nd->Option (List Nd)}{m:Nat}{ls:List ByteArray}{n:Nd}{l:List Nd}(h:0<m)(j:(eE n&&!cw ls n.name)=true)(C:go l=none):bA go m ls (n::l)=none:=by cases m with|zero=>omega|succ m=>rw[bA,if_pos j,C]
theorem uV{go:List Nd->Option (List Nd)}{m k:Nat}{ls:List ByteArray}{n:Nd}{l r:List Nd}(h:k<m)(j:(eE n&&!cw ls n.name)=true)(C:go l=some r):bA go (m-k) ls (n::l)=bA go (m-(k+1)) (ls++[n.name]) r:=by rw[show m-k=(m-(k+1))+1 from by omega,bA,if_pos j,C]
theorem qg{go:List Nd->Option (List Nd)}(C:∀l r,go l=some r->r<:+l):∀(m:Nat)(ls:List ByteArray)(l r:List Nd),bA go m ls l=some r->r<:+l
 |0,_,l,r,h=>by cases h;exact List.suffix_refl _|_+1,_,[],r,h=>by cases h|m+1,ls,n::l,r,h=>by
  rw[bA]at h;split at h;·
   split at h;·cases h
   ·rename_i r' j;exact(qg C m _ _ _ h).trans ((C _ _ j).trans (List.suffix_cons _ _))
  ·cases h
theorem fa(T:Nd->Bool):∀(f:Nat)(st l r:List Nd),ahead T f st l=some r->r<:+l:=by
 intro f;induction f with
  |zero=>
   intro st l r h;cases l with
    |nil=>cases h|cons n l=>
     rw[ahead]at h;repeat' split at h
     all_goals first|cases h;exact List.suffix_cons _ _|cases h
  |succ f ih=>
   intro st l r h;cases l with
    |nil=>cases h|cons n l=>
     rw[ahead]at h;repeat' split at h
     all_goals first|(cases h;exact List.suffix_cons _ _)|(cases h;done)|exact(ih _ _ _ h).trans (List.suffix_cons _ _)|exact(qg (ih _) _ _ _ _ h).trans (List.suffix_cons _ _)
theorem bF.tail{w:World}{B b o cap:Nat}{n:Nd}{l:List Nd}(C:b<B)(R:cV w b o (n::l))(J:(n::l).length<=cap)(T:cap<=9223372036854775807/\l.length<4294967296)(j:Option Addr)(P:cap≠1->j=some ⟨b,o+5,none⟩):bF w B (.slice j l.length (cap-1)) l:=by refine⟨j,cap-1,rfl,by simp at J;omega,by omega,fun I=>?_⟩;have:0<l.length:=List.length_pos_iff.2 I;simp at J;exact⟨b,o+5,P (by omega),C,R.2⟩
theorem wq(f:Nat)(hf:j7 f)(n:Nd)(st l:List Nd)(v p:Value)(w:World)(B:Nat)(bb:(n::st).length+f=10)(hm:1<=n.many/\n.many<=4)(ok:∀n∈l,n.ok)(hB:B<=w.heap.size)(hv:bF w B v l)(hp:cB w p (n::st)):Calls Tryz.prog 270 #[v,p] w fun e w'=>Told w' B e (bA (ahead fQ f (n::st)) n.many.toNat [] l)/\ZW w w':=by
 have HP:=aa hp;have HV:=aa hv;have HF:=aa hf;have HO:=aa ok;have HL:=aa bb;have aM:=aa hB;obtain⟨bp,q,rfl,⟨h0,h1,h2,h3,h4⟩,h5,h6,h⟩:=hp;obtain⟨i0,hi,b3,b4,b5⟩:=info_parts Tryz.mF;obtain⟨m,bn⟩:∃m:Nat,n.many=m:=⟨n.many.toNat,by omega⟩;rw[bn]at hm h3;have cl:1<=m:=by omega
 have cm:m<=4:=by omega
 rw[bn,Int.toNat_natCast];obtain⟨go,bm⟩:∃go,ahead fQ f (n::st)=go:=⟨_,rfl⟩;rw[bm];have HG:=aa bm;have HI:=aa (And.intro hi (And.intro b3 (And.intro b4 b5)));clear hf ok hv h0 h1 h2 h4 h5 h6 h hm bn bb bm hB hi b3 b4 b5;go_in;go_wp2;go_loopw[0,6,14](fun v a3 i wr=>∃(k:Nat)(av:List Nd)(ls:List ByteArray),k<=m/\i=.int .i64 k/\ls.length=k/\(∀n∈av,n.ok)/\bF wr B v av/\wr.ownsRow w.heap.size 9 1 a3 ls.length (ls.map Value.string)/\ZW w wr/\bA go (m-k) ls av=bA go m [] l)(fun _ _ i _=>m-(intOf i).toNat);case atStart=>exact⟨0,l,[],Nat.zero_le _,rfl,rfl,HO.out,HV.out,World.ownsRow_nil _ _ _ _,Below.refl _ _,rfl⟩
 case round=>
  obtain⟨k,av,ls,hk,rfl,bR,b1,b2,bf,a8,a9⟩:=hrel;have az:=aa bR;have al:=aa b1;have cd:=aa b2;have a6:=aa bf;have I:=aa a8;have J:=aa a9;clear bR b1 bf a8 a9;obtain⟨ao,cap,rfl,bL,ch,af⟩:=b2;have bv:=aa af;clear af;by_cases b0:k<m;·
   cases av with
    |nil=>
     go_wp2;go_ret2;refine⟨⟨.slice none 0 0,?_,?_⟩,I.out⟩;·rw[<-J.out,rV (by omega)];rfl
     ·rw[<-J.out,rV (by omega)];intro l h;cases h|cons n1 l1=>
     obtain⟨b,o,rfl,cg,af⟩:=bv.out (by simp);have HR:=aa af;obtain⟨⟨c0,c1,c2,c3,c4⟩,-⟩:=af;have bs:=aa cg;have bi:=aa (al.out n1 (by simp));have bx:=aa (eA a6.out (by have:=az.out;omega));have bB:b<wr.heap.size:=World.block_lt_of_cell? wr _ c0;have hz:((l1.length:Int)+1==0)=false:=beq_eq_false_iff_ne.2 (by omega);have b7:=aa bL;have ca:=aa ch;simp only[List.length_cons]at bL;cases a1:eE n1;·
      have ah:=aa a1;clear a1;go_wp2_with(go_at_call 296;refine(mM n1 _ bi.out).mono ?_;rintro e w1⟨rfl,R⟩;rw[ah.out];have ax:=aa R;clear R);go_ret2;have ac:bA go m [] l=none:=by rw[<-J.out];exact jO (by omega) (by rw[ah.out];rfl)
      refine⟨⟨.slice none 0 0,?_,?_⟩,I.out.trans (ax.out.mono I.out.size)⟩;·rw[ac];rfl
      ·rw[ac];intro l h;cases h
     ·have ah:=aa a1;clear a1;cases a2:cw ls n1.name;·
       have ay:=aa a2;clear a2;have an:=aa (show(eE n1&&!cw ls n1.name)=true by rw[ah.out,ay.out];rfl);go_wp2_with(first|(go_at_call 296;refine(mM n1 _ bi.out).mono ?_;rintro e w1⟨rfl,R⟩;rw[ah.out];obtain⟨g0,g1,g2,g3,g4⟩:=(HR.out.1.carry bB R);have bl:=aa (bx.out.carry R);have a4:=aa (jf a6.out R);have cn:=R.size;have ax:=aa R;clear R)|(go_at_call 184;refine(ix ls n1.name _ _ bl.out).mono ?_;rintro e w2⟨rfl,rfl⟩;rw[ay.out])|(at_builtin;refine wpList_append_own _ rfl (.tmp 34) (.tmp 39) 42 rfl w.heap.size 9 i0 (.string .empty) 1 16 Tryz.underlying42 HI.out.1 HI.out.2.1 HI.out.2.2.1 HI.out.2.2.2 rfl (by decide) _ _ _ rfl (a4.out.alloc _) ⟨_,0,none⟩ 1 1 [.string n1.name] rfl rfl ?c1 ?c2 ?c3 ?c4 ?c5 ?_));case c1=>intro j u hj;match j,hj with|0,hj=>simp at hj;subst hj;simp[Addr.add]
       case c2=>intro u hu;simp at hu;subst hu;rfl
       case c3=>have:=az.out;unfold maxLen;omega
       case c4=>have:=az.out;omega
       case c5=>have:=I.out.size;simp;omega
       intro v' w3 aN aq _;have a5:=aa aN;have a7:=aa ((ax.out.mono I.out.size).trans (((aO _ _).mono (by have:=I.out.size;omega)).grown aq (by have:=I.out.size;simp;omega) (gZ a4.out)));have C:=aa (I.out.trans a7.out);have cc:Hid (∀a0,(cap≠1->a0=some ⟨b,o+5,none⟩)->bF w3 B (.slice a0 l1.length (cap-1)) l1):=aa (fun a0 h=>bF.tail bs.out (HR.out.carry (Nat.lt_of_lt_of_le bs.out aM.out) a7.out) b7.out ca.out a0 h);have aR:=aa (cB.carry C.out HP.out);clear aN aq;by_cases bM:cap=1;·
        have cb:Hid (l1.length=0):=aa (by omega);have aL:Hid (bF w3 B (.slice (some ⟨b,o,none⟩) 0 0) l1):=aa (by rw[List.length_eq_zero_iff.1 cb.out];exact⟨_,_,rfl,Nat.le_refl _,by simp,fun h=>absurd rfl h⟩);subst bM;cases T:go l1 with
         |none=>
          have U:=aa T;clear T;go_wp2_with(go_at_call 240;refine(HF.out (n::st) l1 _ _ _ B HL.out (fun x hx=>al.out x (List.mem_cons_of_mem _ hx)) (Nat.le_trans aM.out C.out.size) aL.out aR.out).mono ?_;rintro e w4⟨⟨v4,rfl,P⟩,ab⟩;rw[HG.out,U.out,Option.isSome_none];have ad:=aa ab;clear P ab);go_ret2;have ac:bA go m [] l=none:=by rw[<-J.out];exact ph (by omega) an.out U.out
          refine⟨⟨.slice none 0 0,?_,?_⟩,C.out.trans (ad.out.mono C.out.size)⟩;·rw[ac];rfl
          ·rw[ac];intro l h;cases h|some r=>
          have U:=aa T;clear T;go_wp2_with(go_at_call 240;refine(HF.out (n::st) l1 _ _ _ B HL.out (fun x hx=>al.out x (List.mem_cons_of_mem _ hx)) (Nat.le_trans aM.out C.out.size) aL.out aR.out).mono ?_;rintro e w4⟨⟨v4,rfl,P⟩,ab⟩;rw[HG.out,U.out]at P|-;rw[Option.isSome_some];replace P:=P r rfl;have bk:=aa P;obtain⟨cf,bz,rfl,br⟩:=P;have ad:=aa ab;clear br ab);go_roundw;case rel=>
           refine⟨k+1,r,ls++[n1.name],by omega,by go_num,by have:=az.out;simp;omega,fun x hx=>al.out x (List.mem_cons_of_mem _ ((fa fQ f (n::st) l1 r (by rw[HG.out];exact U.out)).subset hx)),bk.out,?_,C.out.trans (ad.out.mono C.out.size),?_⟩;·have:=jf a5.out ad.out;simpa using this
           ·rw[<-J.out];exact(uV b0 an.out U.out).symm
          case measure=>simp[intOf];omega
       ·have aL:=aa (cc.out _ (fun _=>rfl));cases T:go l1 with
         |none=>
          have U:=aa T;clear T;go_wp2_with(go_at_call 240;refine(HF.out (n::st) l1 _ _ _ B HL.out (fun x hx=>al.out x (List.mem_cons_of_mem _ hx)) (Nat.le_trans aM.out C.out.size) aL.out aR.out).mono ?_;rintro e w4⟨⟨v4,rfl,P⟩,ab⟩;rw[HG.out,U.out,Option.isSome_none];have ad:=aa ab;clear P ab);go_ret2;have ac:bA go m [] l=none:=by rw[<-J.out];exact ph (by omega) an.out U.out
          refine⟨⟨.slice none 0 0,?_,?_⟩,C.out.trans (ad.out.mono C.out.size)⟩;·rw[ac];rfl
          ·rw[ac];intro l h;cases h|some r=>
          have U:=aa T;clear T;go_wp2_with(go_at_call 240;refine(HF.out (n::st) l1 _ _ _ B HL.out (fun x hx=>al.out x (List.mem_cons_of_mem _ hx)) (Nat.le_trans aM.out C.out.size) aL.out aR.out).mono ?_;rintro e w4⟨⟨v4,rfl,P⟩,ab⟩;rw[HG.out,U.out]at P|-;rw[Option.isSome_some];replace P:=P r rfl;have bk:=aa P;obtain⟨cf,bz,rfl,br⟩:=P;have ad:=aa ab;clear br ab);go_roundw;case rel=>
           refine⟨k+1,r,ls++[n1.name],by omega,by go_num,by have:=az.out;simp;omega,fun x hx=>al.out x (List.mem_cons_of_mem _ ((fa fQ f (n::st) l1 r (by rw[HG.out];exact U.out)).subset hx)),bk.out,?_,C.out.trans (ad.out.mono C.out.size),?_⟩;·have:=jf a5.out ad.out;simpa using this
           ·rw[<-J.out];exact(uV b0 an.out U.out).symm
          case measure=>simp[intOf];omega
      ·have ay:=aa a2;clear a2;go_wp2_with(first|(go_at_call 296;refine(mM n1 _ bi.out).mono ?_;rintro e w1⟨rfl,R⟩;rw[ah.out];obtain⟨g0,g1,g2,g3,g4⟩:=(HR.out.1.carry bB R);have bl:=aa (bx.out.carry R);have ax:=aa R;clear R)|(go_at_call 184;refine(ix ls n1.name _ _ bl.out).mono ?_;rintro e w2⟨rfl,rfl⟩;rw[ay.out]));go_ret2;have ac:bA go m [] l=none:=by rw[<-J.out];exact jO (by omega) (by rw[ah.out,ay.out];rfl)
       refine⟨⟨.slice none 0 0,?_,?_⟩,I.out.trans (ax.out.mono I.out.size)⟩;·rw[ac];rfl
       ·rw[ac];intro l h;cases h
  ·go_wp2;go_ret2;have bN:k=m:=by omega
   refine⟨⟨.slice ao av.length cap,?_,?_⟩,I.out⟩;·rw[<-J.out,bN,Nat.sub_self];rfl
   ·rw[<-J.out,bN,Nat.sub_self];intro l h;cases h;exact cd.out
def Nd.cells(n:Nd):List Value:=[.int .i64 n.op,.string n.name,.string n.peer,.int .i64 n.many,.int .i64 n.sort]
theorem Nd.bh(n:Nd):n.cells.length=5:=rfl
theorem Nd.cells_one(n:Nd):∀u∈n.cells,u.oneCell'=true:=by intro u hu;simp[Nd.cells]at hu;rcases hu with rfl|rfl|rfl|rfl|rfl<;>rfl
theorem iC(l:List Nd):∀u∈l.flatMap Nd.cells,u.oneCell'=true:=fun u hu=>by obtain⟨x,_,j⟩:=List.mem_flatMap.1 hu;exact Nd.cells_one x u j
def bV(w:World)(base:Nat)(v:Value)(l:List Nd):Prop:=w.ownsRow base 156 5 v l.length (l.flatMap Nd.cells)
theorem bV.below{w w':World}{base:Nat}{v:Value}{l:List Nd}(h:bV w base v l)(j:ZW w w'):bV w' base v l:=aT h j
theorem bV.snoc{w:World}{base:Nat}{v:Value}{l r:List Nd}(h:w.ownsRow base 156 5 v (l.length+r.length) (l.flatMap Nd.cells++r.flatMap Nd.cells)):bV w base v (l++r):=by unfold bV;rw[List.length_append,List.flatMap_append];exact h
theorem bV.at_{w:World}{base:Nat}{v:Value}{l:List Nd}(h:bV w base v l)(J:0<l.length):∃g c,v=.slice (some ⟨g,0,none⟩) l.length c/\g<w.heap.size/\base<=g:=by
 rcases h.2 with⟨_,R⟩|⟨g,cap,C,P,I,j,_⟩;·omega
 ·exact⟨g,cap,P,(Array.getElem?_eq_some_iff.1 j).1,I⟩
theorem bV.cell{w:World}{base g c:Nat}{l:List Nd}(h:bV w base (.slice (some ⟨g,0,none⟩) l.length c) l)(j:Nat)(u:Value)(C:(l.flatMap Nd.cells)[j]?=some u):w.cell? (Addr.add ⟨g,0,none⟩ j)=some u:=by
 have e:Addr.add ⟨g,0,none⟩ j=⟨g,j,none⟩:=by unfold Addr.add;split<;>simp_all
 rw[e];exact cQ h rfl j u C
theorem fw(w:World)(n:Nd)(base b:Nat)(l:b=w.heap.size)(j:base<=w.heap.size):bV (w.alloc (.cells #[.int .i64 n.op,.string n.name,.string n.peer,.int .i64 n.many,.int .i64 n.sort] 156)) base (.slice (some ⟨b,0,none⟩) 1 1) [n]:=by subst l;have:=World.ownsRow_lit (e:=156) (size:=5) (base:=base) w #[.int .i64 n.op,.string n.name,.string n.peer,.int .i64 n.many,.int .i64 n.sort] 1 j (by simp[maxLen]) rfl;unfold bV;simpa[Nd.cells]using this
theorem Tryz.o8:(Tryz.prog.info? 156).map (fun i=>(i.zero,i.size,i.bytes))=some (some (.agg #[.int .i64 0,.string .empty,.string .empty,.int .i64 0,.int .i64 0]),5,56):=by kernel_rfl
theorem da{T:Nd->Bool}{f:Nat}{st l:List Nd}{n:Nd}(h:n.op=0):ahead T f st (n::l)=if iu n then some l else none:=by cases f<;>simp[ahead,h]
theorem dv{T:Nd->Bool}{f:Nat}{st l:List Nd}{n:Nd}(h:n.op=1):ahead T f st (n::l)=if oR n&&eR false st n.name then some l else none:=by cases f<;>simp[ahead,h]
theorem dC{T:Nd->Bool}{f:Nat}{st l:List Nd}{n:Nd}(h:n.op=2):ahead T (f+1) st (n::l)=if iR n&&!bW st n.name then ahead T f (n::st) l else none:=by simp[ahead,h]
theorem fG{T:Nd->Bool}{st l:List Nd}{n:Nd}(h:n.op=2):ahead T 0 st (n::l)=none:=by simp[ahead,h]
theorem fA{T:Nd->Bool}{f:Nat}{st l:List Nd}{n:Nd}(j:n.op≠0)(C:n.op≠1)(I:n.op≠2):ahead T (f+1) st (n::l)=if T n then bA (ahead T f (n::st)) n.many.toNat [] l else none:=by simp[ahead,j,C,I]
theorem fm{T:Nd->Bool}{st l:List Nd}{n:Nd}(j:n.op≠0)(C:n.op≠1):ahead T 0 st (n::l)=none:=by simp[ahead,j,C]
theorem FI{T:Nd->Bool}{f:Nat}{st l:List Nd}{n:Nd}(j:n.op≠0)(C:n.op≠1)(I:n.op≠2)(J:T n=false):ahead T f st (n::l)=none:=by cases f<;>simp[ahead,j,C,I,J]
theorem ji{w w':World}{B:Nat}{v:Value}{x:Bool}{r:Option (List Nd)}{I:List Nd}(P:bF w B v I)(J:B<=w.heap.size)(C:ZW w w')(j:r=if x then some I else none):Told w' B (.returned (.tuple #[v,.bool x])) r/\ZW w w':=by
 refine⟨⟨v,?_,?_⟩,C⟩;·cases x<;>simp[j]
 ·intro l hl;cases x;·simp[j]at hl
  ·simp[j]at hl;subst hl;exact P.carry (C.mono J)
theorem iA{w w':World}{B:Nat}{v:Value}{r:Option (List Nd)}(C:ZW w w')(j:r=none):Told w' B (.returned (.tuple #[v,.bool false])) r/\ZW w w':=by refine⟨⟨v,by rw[j];rfl,?_⟩,C⟩;rw[j];intro l hl;cases hl
theorem AY{w C w':World}{B:Nat}{e:Ending}{r r':Option (List Nd)}(h:Told w' B e r')(j:ZW w C)(l:ZW C w')(I:r=r'):Told w' B e r/\ZW w w':=⟨I▸h,j.trans (l.mono j.size)⟩
theorem boxed(w:World)(n:Nd)(t:TypeId):cZ (w.alloc (.cells #[.int .i64 n.op,.string n.name,.string n.peer,.int .i64 n.many,.int .i64 n.sort] t)).drew w.heap.size 0 n:=by simp[cZ]
