import Derived.Test.YtdiiiijkhpdcbaaGreatDoorRV10
namespace Go.Proofs.YtdiiiijkhpdcbaaGreatDoor
open Go.RowKit
set_option linter.unusedSimpArgs false
set_option linter.unusedVariables false
set_option maxHeartbeats 1000000
set_option maxRecDepth 100000
structure Nd where
 op:Int
 name:ByteArray
 peer:ByteArray
 many:Int
 sort:Int
def Nd.val(n:Nd):Value:=.agg #[.int .i64 n.op,.string n.name,.string n.peer,.int .i64 n.many,.int .i64 n.sort]
def Nd.ok(n:Nd):Prop:=n.name.size<=maxLen/\n.peer.size<=maxLen
def cX(t:ByteArray):Bool:=cA t&&(!(t.toList==[101,110,100])&&!(t.toList==[114,101,99]))
def la(n:Int):Bool:=decide (0<=n)&&decide (n<=2)
def jJ(n:Int):Bool:=decide (1<=n)&&decide (n<=4)
def iJ(n:Nd):Bool:=n.op==2&&n.peer.toList==[]&&n.many==0&&n.sort==0&&cX n.name
def oG(n:Nd):Bool:=n.op==1&&n.peer.toList==[]&&n.many==0&&n.sort==0
def ic(n:Nd):Bool:=n.op==0&&n.name.toList==[]&&n.peer.toList==[]&&n.many==0&&n.sort==0
def nB(n:Nd):Bool:=if n.op==3 then cX n.name&&!(n.name.toList==n.peer.toList)else n.name.toList==[]
def fQ(n:Nd):Bool:=(n.op==3||n.op==5||n.op==6)&&n.sort==0&&jJ n.many&&cX n.peer&&nB n
def bC(j:Bool)(n:Nd):Bool:=cX n.peer&&jJ n.many&&n.sort==0&&(if j then n.name.toList==[]&&(n.op==5||n.op==6)else n.op==3&&cX n.name&&!(n.name.toList==n.peer.toList))
def eE(n:Nd):Bool:=n.op==4&&n.peer.toList==[]&&n.many==0&&cX n.name&&la n.sort
theorem aO(w:World)(o:Obj):Below w.heap.size w (w.alloc o):=(Below.refl _ _).alloc (Nat.le_refl _) o
theorem kW(t:ByteArray)(w:World)(C:t.size<=maxLen):Calls Tryz.prog 294 #[.string t] w fun e w'=>e=.returned (.bool (cX t))/\w'=w:=by obtain⟨b,l⟩:∃b,cA t=b:=⟨_,rfl⟩;have j:=aa l;have I:=aa C;clear l C;cases b;all_goals go_enter Tryz.func294,Tryz.ntmps294;go_wp2_with(go_at_call 207;refine(lS t _ (bw I)).mono ?_;rintro e w'⟨rfl,rfl⟩;rw[bw j]);all_goals go_ret;refine⟨aC ?_,rfl⟩;rw[cX,bw j];simp[*]
theorem im(t:ByteArray)(w:World)(C:t.size<=maxLen):Calls Tryz.prog 259 #[.string t] w fun e w'=>e=.returned (.bool (cX t))/\w'=w:=by obtain⟨b,l⟩:∃b,cA t=b:=⟨_,rfl⟩;have j:=aa l;have I:=aa C;clear l C;cases b;all_goals go_enter Tryz.func259,Tryz.ntmps259;go_wp2_with(go_at_call 177;refine(uc t _ (bw I)).mono ?_;rintro e w'⟨rfl,rfl⟩;rw[bw j]);all_goals go_ret;refine⟨aC ?_,rfl⟩;rw[cX,bw j];simp[*]
theorem Ju(n lo hi:Int)(w:World):Calls Tryz.prog 105 #[.int .i64 n,.int .i64 lo,.int .i64 hi] w fun e w'=>e=.returned (.bool (decide (lo<=n)&&decide (n<=hi)))/\w'=w:=by by_cases h:lo<=n;all_goals go_enter Tryz.func105,Tryz.ntmps105;go_wp2_with fail;go_ret;refine⟨aC ?_,rfl⟩;simp[*];try omega
theorem vg(n:Int)(w:World):Calls Tryz.prog 178 #[.int .i64 n] w fun e w'=>e=.returned (.bool (la n))/\w'=w:=by go_enter Tryz.func178,Tryz.ntmps178;go_wp2_with(go_at_call 105;refine(Ju _ _ _ _).mono ?_;rintro e w'⟨rfl,rfl⟩);go_ret;exact⟨aC rfl,rfl⟩
theorem yR(n:Int)(w:World):Calls Tryz.prog 211 #[.int .i64 n] w fun e w'=>e=.returned (.bool (la n))/\w'=w:=by by_cases h:0<=n;all_goals go_enter Tryz.func211,Tryz.ntmps211;go_wp2_with fail;go_ret;exact⟨aC (by simp[la, *];try omega),rfl⟩
theorem lX(n:Nd)(w:World)(l:n.ok):Calls Tryz.prog 265 #[n.val] w fun e w'=>e=.returned (.bool (iJ n))/\Below w.heap.size w w':=by have j:iJ n=(n.op==2&&n.peer.toList==[]&&n.many==0&&n.sort==0&&cX n.name):=rfl;have C:=aa j;have I:=aa l.1;clear j l;unfold Nd.val;go_enter Tryz.func265,Tryz.ntmps265;go_wp2_with(go_at_call 294;refine(kW n.name _ (bw I)).mono ?_;rintro e w'⟨rfl,rfl⟩);all_goals go_ret;refine⟨aC ?_,aO _ _⟩;rw[bw C];simp[*]
theorem xM(n:Nd)(w:World)(C:n.ok):Calls Tryz.prog 295 #[n.val] w fun e w'=>e=.returned (.bool (nB n))/\Below w.heap.size w w':=by
 have J:=aa (show nB n=(if n.op==3 then cX n.name&&!(n.name.toList==n.peer.toList)else n.name.toList==[])from rfl);obtain⟨b,l⟩:∃b,cX n.name=b:=⟨_,rfl⟩;have j:=aa l;have P:=aa C.1;obtain⟨c,R⟩:∃c,(n.op==3)=c:=⟨_,rfl⟩;have I:=aa R;clear l C;unfold Nd.val;cases b;all_goals cases c
 all_goals go_enter Tryz.func295,Tryz.ntmps295;go_wp2_with(go_at_call 294;refine(kW n.name _ (bw P)).mono ?_;rintro e w'⟨rfl,rfl⟩;rw[bw j]);all_goals go_ret;refine⟨aC ?_,aO _ _⟩;rw[bw J,bw j,bw I];simp[*]
theorem za(n:Nd)(w:World)(P:n.ok)(l:n.op=3\/n.op=5\/n.op=6):Calls Tryz.prog 269 #[n.val] w fun e w'=>e=.returned (.bool (fQ n))/\Below w.heap.size w w':=by
 have HR:Hid (fQ n=(n.sort==0&&jJ n.many&&cX n.peer&&nB n)):=aa (by rcases l with h|h|h<;>simp[fQ,h]);obtain⟨b,J⟩:∃b,nB n=b:=⟨_,rfl⟩;obtain⟨c,T⟩:∃c,cX n.peer=c:=⟨_,rfl⟩;have U:=aa J;have C:Hid (nB ⟨n.op,n.name,n.peer,n.many,0⟩=b):=aa J;have R:=aa T;have HO:=aa P;have HT:=aa P.2;clear J T P l;unfold Nd.val;cases b;all_goals cases c
 all_goals
  go_enter Tryz.func269,Tryz.ntmps269;go_wp2_with(first|(go_at_call 295;refine(xM ⟨n.op,n.name,n.peer,n.many,0⟩ _ (bw HO)).mono ?_;rintro e w'⟨rfl,j⟩;rw[C.out];have I:=aa j;clear j)|(go_at_call_of 294 n.peer;refine(kW n.peer _ (bw HT)).mono ?_;rintro e w'⟨rfl,rfl⟩;rw[bw R]));all_goals
   go_ret;refine⟨aC ?_,?_⟩;·rw[bw HR,bw U,bw R];simp[jJ, *];try omega
   ·first|exact(aO _ _).trans (I.out.mono (aO _ _).size)|exact aO _ _
theorem mF(n:Nd)(w:World)(C:n.ok):Calls Tryz.prog 296 #[n.val] w fun e w'=>e=.returned (.bool (eE n))/\Below w.heap.size w w':=by have I:=aa (show eE n=(n.op==4&&n.peer.toList==[]&&n.many==0&&cX n.name&&la n.sort)from rfl);obtain⟨b,l⟩:∃b,cX n.name=b:=⟨_,rfl⟩;have j:=aa l;have J:=aa C.1;clear l C;unfold Nd.val;cases b;all_goals go_enter Tryz.func296,Tryz.ntmps296;go_wp2_with(first|(go_at_call 294;refine(kW n.name _ (bw J)).mono ?_;rintro e w'⟨rfl,rfl⟩;rw[bw j])|(go_at_call 211;refine(yR n.sort _).mono ?_;rintro e w'⟨rfl,rfl⟩));all_goals go_ret;refine⟨aC ?_,aO _ _⟩;rw[bw I,bw j];simp[*]
theorem yN(j:Bool)(l:Nat)(n:Nd)(w:World)(C:n.ok)(hx:w.cell? ⟨l,1,none⟩=some (.bool j)):Calls Tryz.prog 260 #[.pointer (some ⟨l,0,none⟩),n.val] w fun e w'=>e=.returned (.bool (bC j n))/\Below w.heap.size w w':=by
 have HR:=aa (show bC j n=(cX n.peer&&jJ n.many&&n.sort==0&&(if j then n.name.toList==[]&&(n.op==5||n.op==6)else n.op==3&&cX n.name&&!(n.name.toList==n.peer.toList)))from rfl);obtain⟨b,P⟩:∃b,cX n.name=b:=⟨_,rfl⟩;obtain⟨c,R⟩:∃c,cX n.peer=c:=⟨_,rfl⟩;obtain⟨d,hd⟩:∃d,(decide (1<=n.many)&&decide (n.many<=4))=d:=⟨_,rfl⟩;have I:=aa P;have J:=aa R;have T:=aa hd;have U:=aa (show jJ n.many=d from hd);have HS:=aa C.1;have HT:=aa C.2;have ab:l<w.heap.size:=World.block_lt_of_cell? w _ hx;clear P R hd C;unfold Nd.val;cases b;all_goals cases c
 all_goals cases d
 all_goals cases j
 all_goals go_enter Tryz.func260,Tryz.ntmps260;go_wp2_with(first|(go_at_call_of 259 n.name;refine(im n.name _ (bw HS)).mono ?_;rintro e w'⟨rfl,rfl⟩;rw[bw I])|(go_at_call_of 259 n.peer;refine(im n.peer _ (bw HT)).mono ?_;rintro e w'⟨rfl,rfl⟩;rw[bw J])|(go_at_call 105;refine(Ju _ _ _ _).mono ?_;rintro e w'⟨rfl,rfl⟩;rw[bw T]));all_goals go_ret;refine⟨aC ?_,aO _ _⟩;rw[bw HR,bw I,bw J,bw U];simp[*];try simp_all
def cZ(w:World)(b o:Nat)(n:Nd):Prop:=w.cell? ⟨b,o,none⟩=some (.int .i64 n.op)/\w.cell? ⟨b,o+1,none⟩=some (.string n.name)/\w.cell? ⟨b,o+2,none⟩=some (.string n.peer)/\w.cell? ⟨b,o+3,none⟩=some (.int .i64 n.many)/\w.cell? ⟨b,o+4,none⟩=some (.int .i64 n.sort)
def cV(w:World)(b:Nat):Nat->List Nd->Prop|_,[]=>True|o,n::l=>cZ w b o n/\cV w b (o+5) l
theorem cZ.carry{w w':World}{b o:Nat}{n:Nd}(h:cZ w b o n){B:Nat}(j:b<B)(l:Below B w w'):cZ w' b o n:=by obtain⟨C,I,J,P,R⟩:=h;exact⟨(l.cell (p:=⟨b,_,none⟩) j).trans C,(l.cell (p:=⟨b,_,none⟩) j).trans I,(l.cell (p:=⟨b,_,none⟩) j).trans J,(l.cell (p:=⟨b,_,none⟩) j).trans P,(l.cell (p:=⟨b,_,none⟩) j).trans R⟩
theorem cZ.lt{w:World}{b o:Nat}{n:Nd}(h:cZ w b o n):b<w.heap.size:=World.block_lt_of_cell? w _ h.1
theorem cV.carry{w w':World}{b B:Nat}(j:b<B)(C:Below B w w'):∀{l:List Nd}{o:Nat},cV w b o l->cV w' b o l|[],_,_=>trivial|_::_,_,h=>⟨h.1.carry j C,cV.carry j C h.2⟩
theorem cV.lt{w:World}{b o:Nat}{n:Nd}{l:List Nd}(h:cV w b o (n::l)):b<w.heap.size:=h.1.lt
theorem cV.get{w:World}{b:Nat}:∀{l:List Nd}{o:Nat},cV w b o l->∀i(h:i<l.length),cZ w b (o+i*5) l[i]|_::_,_,h,0,_=>by simpa using h.1|_::l,o,h,i+1,hi=>by have:=h.2.get i (by simpa using hi);rw[show o+5+i*5=o+(i+1)*5 from by omega]at this;simpa using this
theorem cV.drop{w:World}{b:Nat}:∀{l:List Nd}{o:Nat},cV w b o l->∀i,cV w b (o+i*5) (l.drop i)|_,_,h,0=>by simpa using h|[],_,_,i+1=>by simp[cV]|_::l,o,h,i+1=>by have:=h.2.drop i;rw[show o+5+i*5=o+(i+1)*5 from by omega]at this;simpa using this
def bG(w:World)(B:Nat)(v:Value)(ns:List Nd):Prop:=∃j cap,v=.slice j ns.length cap/\ns.length<=cap/\(cap<=9223372036854775807/\ns.length<=4294967296)/\(ns≠[]->∃b o,j=some ⟨b,o,none⟩/\b<B/\cV w b o ns)
theorem bG.carry{w w':World}{B:Nat}{v:Value}{ns:List Nd}(h:bG w B v ns)(T:Below B w w'):bG w' B v ns:=by obtain⟨C,cap,I,J,P,R⟩:=h;refine⟨C,cap,I,J,P,fun l=>?_⟩;obtain⟨b,o,e,j,U⟩:=R l;exact⟨b,o,e,j,U.carry j T⟩
def cD(w:World):Value->List Nd->Prop|p,[]=>p=.pointer none|p,n::st=>∃b q,p=.pointer (some ⟨b,0,none⟩)/\cZ w b 0 n/\w.cell? ⟨b,5,none⟩=some (.int .i64 (st.length+1:Nat))/\w.cell? ⟨b,6,none⟩=some q/\cD w q st
theorem cD.carry{w w':World}(j:Below w.heap.size w w'):∀{st:List Nd}{p:Value},cD w p st->cD w' p st|[],_,h=>h|_::_,_,⟨b,q,e,l,C,I,h⟩=>⟨b,q,e,l.carry l.lt j,(j.cell (p:=⟨b,_,none⟩) l.lt).trans C,(j.cell (p:=⟨b,_,none⟩) l.lt).trans I,cD.carry j h⟩
theorem cD.shape{w:World}{st:List Nd}{p:Value}(h:cD w p st):∃u,p=.pointer u:=by cases st with|nil=>exact⟨_,h⟩|cons=>obtain⟨b,q,e,_⟩:=h;exact⟨_,e⟩
def tB(st:List Nd):Bool:=st.length==10
def bW(st:List Nd)(name:ByteArray):Bool:=st.any fun n=>n.op==2&&n.name.toList==name.toList
def eR(j:Bool):List Nd->ByteArray->Bool|[],_=>false|n::st,name=>if n.op==2 then(if n.name.toList==name.toList then j else eR j st name)else eR true st name
theorem uV(st:List Nd)(p:Value)(w:World)(j:cD w p st):Calls Tryz.prog 267 #[p] w fun e w'=>e=.returned (.bool (tB st))/\w'=w:=by
 cases st with
  |nil=>cases j;go_enter Tryz.func267,Tryz.ntmps267;go_wp2_with fail;go_ret;exact⟨aC rfl,rfl⟩|cons n st=>
   obtain⟨b,q,rfl,C,I,l,h⟩:=j;clear C l h;go_enter Tryz.func267,Tryz.ntmps267;go_wp2_with fail;go_ret;refine⟨aC ?_,rfl⟩;rw[tB,List.length_cons];cases h:((st.length:Int)+1==10);·rw[beq_eq_false_iff_ne]at h|-;omega
   ·rw[beq_iff_eq]at h|-;omega
theorem Ad(st:List Nd)(p:Value)(n:Nd)(w:World)(j:cD w p st)(l:st.length<1000):Calls Tryz.prog 268 #[p,n.val] w fun e w'=>∃q,e=.returned q/\cD w' q (n::st)/\Below w.heap.size w w':=by
 have I:=aa j;have R:=aa l;cases st with
  |nil=>cases j;unfold Nd.val;go_enter Tryz.func268,Tryz.ntmps268;go_wp2_with fail;go_ret;refine⟨_,rfl,⟨_,_,rfl,⟨?_,?_,?_,?_,?_⟩,?_,?_,rfl⟩,(aO _ _).trans (((aO _ _)).mono (by simp))⟩;all_goals simp|cons n' st=>
   obtain⟨b,q,rfl,C,T,J,h⟩:=j;have P:=C.lt;clear C J h;unfold Nd.val;go_enter Tryz.func268,Tryz.ntmps268;have U:wrap64 ((st.length:Int)+1+1)=(st.length:Int)+1+1:=by simp only[List.length_cons]at l;simp only[wrap64];omega
   go_wp2_with fail;go_region;go_wp2_with fail;go_ret;refine⟨_,rfl,⟨w.heap.size+1,.pointer (some ⟨b,0,none⟩),rfl,⟨?_,?_,?_,?_,?_⟩,?_,?_,?_⟩,((aO _ _).trans (((aO _ _)).mono (by simp))).drew⟩;case refine_8=>exact cD.carry ((aO _ _).trans (((aO _ _)).mono (by simp))).drew I.out
   all_goals simp
   all_goals omega
theorem r7(st:List Nd)(p:Value)(name:ByteArray)(w:World)(l:cD w p st):Calls Tryz.prog 266 #[p,.string name] w fun e w'=>e=.returned (.bool (bW st name))/\w'=w:=by
 obtain⟨u,rfl⟩:=l.shape;have R:=aa l;clear l;go_enter Tryz.func266,Tryz.ntmps266;go_wp2_with fail;go_loopg[0]st.length(fun k p wr=>wr=w/\∃j,j.length=k/\cD w p j/\bW j name=bW st name);case atStart=>exact⟨rfl,st,rfl,R.out,rfl⟩
 case round=>
  obtain⟨rfl,j,J,l,I⟩:=hrel;have P:=aa J;have C:=aa I;clear J I;cases j with
   |nil=>cases l;go_wp2_with fail;go_ret;exact⟨aC C.out.symm,rfl⟩|cons n j=>
    obtain⟨b,q,rfl,⟨h0,h1,U,h3,h4⟩,h5,h6,h⟩:=l;obtain⟨u',rfl⟩:=h.shape;have T:=aa h;clear h U h3 h4 h5;go_wp2_with fail;all_goals
     first
      |(go_ret;refine⟨aC ?_,rfl⟩;rw[<-C.out];simp_all[bW])|
       (
        go_roundg j.length;case measure=>have:=P.out;simp at this;omega
        case rel=>exact⟨rfl,j,rfl,T.out,by rw[<-C.out];simp_all[bW]⟩)
theorem Iv(st:List Nd)(p:Value)(name:ByteArray)(w:World)(l:cD w p st):Calls Tryz.prog 264 #[p,.string name] w fun e w'=>e=.returned (.bool (eR false st name))/\w'=w:=by
 obtain⟨u,rfl⟩:=l.shape;have R:=aa l;clear l;go_enter Tryz.func264,Tryz.ntmps264;go_wp2_with fail;go_loopg[0,5]st.length(fun k p said wr=>wr=w/\∃j b,j.length=k/\said=.bool b/\cD w p j/\eR b j name=eR false st name);case atStart=>exact⟨rfl,st,false,rfl,rfl,R.out,rfl⟩
 case round=>
  obtain⟨rfl,j,b0,J,rfl,l,I⟩:=hrel;have P:=aa J;have C:=aa I;clear J I;cases j with
   |nil=>cases l;go_wp2_with fail;go_ret;exact⟨aC C.out.symm,rfl⟩|cons n j=>
    obtain⟨b,q,rfl,⟨h0,h1,U,h3,h4⟩,h5,h6,h⟩:=l;obtain⟨u',rfl⟩:=h.shape;have T:=aa h;clear h U h3 h4 h5;go_wp2_with fail;all_goals
     first
      |(go_ret;refine⟨aC ?_,rfl⟩;rw[<-C.out];simp_all[eR])|
       (
        go_roundg j.length;case measure=>have:=P.out;simp at this;omega
        case rel=>exact⟨rfl,j,_,rfl,rfl,T.out,by rw[<-C.out];simp_all[eR]⟩)
def cw(ls:List ByteArray)(t:ByteArray):Bool:=ls.any fun s=>s.toList==t.toList
def cG(w:World)(v:Value)(ls:List ByteArray):Prop:=∃j cap,v=.slice j ls.length cap/\ls.length<=cap/\ls.length<=4294967296/\(ls≠[]->∃b o,j=some ⟨b,o,none⟩/\∀i(h:i<ls.length),w.cell? ⟨b,o+i,none⟩=some (.string ls[i]))
theorem cG.carry{w w':World}{v:Value}{ls:List ByteArray}(h:cG w v ls)(T:Below w.heap.size w w'):cG w' v ls:=by obtain⟨C,cap,I,J,P,R⟩:=h;refine⟨C,cap,I,J,P,fun j=>?_⟩;obtain⟨b,o,e,l⟩:=R j;refine⟨b,o,e,fun i hi=>?_⟩;exact(T.cell (p:=⟨b,_,none⟩) (World.block_lt_of_cell? w _ (l i hi))).trans (l i hi)
theorem wk{ls:List ByteArray}{t:ByteArray}{k:Nat}(l:k<ls.length)(h:cw (ls.take k) t=false)(j:(ls[k].toList==t.toList)=false):cw (ls.take (k+1)) t=false:=by rw[cw,List.take_succ_eq_append_getElem l,List.any_append];have:(ls.take k).any (fun s=>s.toList==t.toList)=false:=h;simp[this,j]at*
theorem zM{ls:List ByteArray}{t:ByteArray}{k:Nat}(l:k<ls.length)(j:(ls[k].toList==t.toList)=true):cw ls t=true:=by rw[cw,List.any_eq_true];exact⟨ls[k],List.getElem_mem l,j⟩
theorem eA{w:World}{base e:Nat}{v:Value}{ls:List ByteArray}(h:w.ownsRow base e 1 v ls.length (ls.map Value.string))(J:ls.length<=4294967296):cG w v ls:=by
 obtain⟨_,hv⟩:=h;rcases hv with⟨rfl,P⟩|⟨g,cap,j,rfl,hg,T,U,I,ab,l⟩;·have:ls=[]:=List.length_eq_zero_iff.1 P;subst this;exact⟨none,0,rfl,Nat.le_refl _,J,fun h=>absurd rfl h⟩
 ·refine⟨_,cap,rfl,U,J,fun _=>⟨g,0,rfl,fun i hi=>?_⟩⟩;have R:j.toList[i]?=some (.string ls[i]):=by
   have C:(j.toList.take (ls.length*1))[i]?=(ls.map Value.string)[i]?:=by rw[l]
   rw[List.getElem?_take,if_pos (by omega)]at C;rw[C];simp[hi]
  have C:j[i]?=some (.string ls[i]):=by rw[<-R];simp
  simp only[World.cell?,T];simpa using C
theorem iY{w w':World}{base e size:Nat}{v:Value}{n:Nat}{J:List Value}(h:w.ownsRow base e size v n J)(R:Below w.heap.size w w'):w'.ownsRow base e size v n J:=by
 obtain⟨P,I⟩:=h;refine⟨P,?_⟩;rcases I with I|⟨g,cap,j,rfl,T,l,r⟩;·exact .inl I
 ·have C:g<w.heap.size:=by
   rcases Nat.lt_or_ge g w.heap.size with h|h;·exact h
   ·rw[Array.getElem?_eq_none h]at l;exact absurd l (by simp)
  exact .inr ⟨g,cap,j,rfl,T,by rw[R.block g C];exact l,r⟩
theorem gQ{w:World}{base e size:Nat}{v:Value}{n:Nat}{J:List Value}(h:w.ownsRow base e size v n J):∀k,v.ownBlock=some k->base<=k:=by
 obtain⟨_,I⟩:=h;rcases I with⟨rfl,_⟩|⟨g,cap,l,rfl,C,r⟩;·intro k j;cases j
 ·intro k j;cases j;exact C
theorem fD(ls:List ByteArray)(t:ByteArray)(v:Value)(w:World)(hv:cG w v ls):Calls Tryz.prog 131 #[v,.string t] w fun e w'=>e=.returned (.bool (cw ls t))/\w'=w:=by
 obtain⟨ao,cap,rfl,hc,hm,U⟩:=hv;have HR:=aa U;clear U;go_enter Tryz.func131,Tryz.ntmps131;go_wp2_with fail;go_loop[5](fun i=>∃k:Nat,k<=ls.length/\i=.int .i64 k/\cw (ls.take k) t=false)(fun i=>ls.length-(intOf i).toNat);case atStart=>exact⟨0,Nat.zero_le _,rfl,rfl⟩
 case round=>
  obtain⟨k,hk,rfl,C⟩:=hrel;have R:=aa C;clear C;by_cases l:k<ls.length;·
   obtain⟨b,o,rfl,j⟩:=HR.out (by intro h;simp[h]at l);have J:=j k l;obtain⟨s,P⟩:∃s,s=ls[k]:=⟨_,rfl⟩;rw[<-P]at J;have I:=aa P;clear j P;cases heq:(s.toList==t.toList);all_goals have T:=aa heq
   ·go_wp2_with fail;go_round;case rel=>exact⟨k+1,by omega,by go_num,wk l R.out (by rw[<-I.out];exact T.out)⟩
    case measure=>simp[intOf];omega
   ·go_wp2_with fail;go_ret;exact⟨aC (zM l (by rw[<-I.out];exact T.out)),rfl⟩
  ·go_wp2_with fail;go_ret;refine⟨aC ?_,rfl⟩;have:=R.out;rwa[List.take_of_length_le (by omega)]at this
theorem Gq(ls:List ByteArray)(t:ByteArray)(v:Value)(w:World)(hv:cG w v ls):Calls Tryz.prog 226 #[v,.string t] w fun e w'=>∃j:Int,e=.returned (.int .i64 j)/\decide (0<=j)=cw ls t/\w'=w:=by
 obtain⟨ao,cap,rfl,hc,hm,hr⟩:=hv;have HR:=aa hr;clear hr;go_enter Tryz.func226,Tryz.ntmps226;go_wp2_with fail;go_loop[8](fun i=>∃k:Nat,k<=ls.length/\i=.int .i64 k/\cw (ls.take k) t=false)(fun i=>ls.length-(intOf i).toNat);case atStart=>exact⟨0,Nat.zero_le _,rfl,rfl⟩
 case round=>
  obtain⟨k,hk,rfl,I⟩:=hrel;have T:=aa I;clear I;by_cases C:k<ls.length;·
   obtain⟨b,o,rfl,l⟩:=HR.out (by intro h;simp[h]at C);have P:=l k C;obtain⟨s,R⟩:∃s,s=ls[k]:=⟨_,rfl⟩;rw[<-R]at P;have J:=aa R;clear l R;cases heq:(t.toList==s.toList);all_goals have U:=aa heq
   ·go_wp2_with fail;go_round;case rel=>exact⟨k+1,by omega,by go_num,wk C T.out (by rw[<-J.out,Bool.beq_comm];exact U.out)⟩
    case measure=>simp[intOf];omega
   ·go_wp2_with fail;go_ret;exact⟨_,rfl,by rw[zM C (by rw[<-J.out,Bool.beq_comm];exact U.out)];simp,rfl⟩
  ·go_wp2_with fail;go_ret;refine⟨_,rfl,?_,rfl⟩;have:=T.out;rw[List.take_of_length_le (by omega)]at this;rw[this];rfl
theorem il(ls:List ByteArray)(t:ByteArray)(v:Value)(w:World)(C:cG w v ls):Calls Tryz.prog 184 #[v,.string t] w fun e w'=>e=.returned (.bool (cw ls t))/\w'=w:=by have J:=aa C;obtain⟨U,cap,rfl,P,R,T⟩:=C;clear T P R;go_enter Tryz.func184,Tryz.ntmps184;go_wp2_with(go_at_call 226;refine(Gq ls t _ _ J.out).mono ?_;rintro e w'⟨j,rfl,l,rfl⟩;have I:=aa l;clear l);go_ret;exact⟨aC I.out.symm,rfl⟩
def bA(go:List Nd->Option (List Nd)):Nat->List ByteArray->List Nd->Option (List Nd)|0,_,l=>some l|_+1,_,[]=>none|m+1,ls,n::l=>if eE n&&!cw ls n.name then match go l with|none=>none|some r=>bA go m (ls++[n.name]) r else none
def ahead(T:Nd->Bool):Nat->List Nd->List Nd->Option (List Nd)|_,_,[]=>none|0,st,n::l=>if n.op==0 then(if ic n then some l else none)else if n.op==1 then(if oG n&&eR false st n.name then some l else none)else none|f+1,st,n::l=>if n.op==0 then(if ic n then some l else none)else if n.op==1 then(if oG n&&eR false st n.name then some l else none)else if n.op==2 then(if iJ n&&!bW st n.name then ahead T f (n::st) l else none)else if T n then bA (ahead T f (n::st)) n.many.toNat [] l else none
def Told(w':World)(B:Nat)(e:Ending)(r:Option (List Nd)):Prop:=∃v,e=.returned (.tuple #[v,.bool r.isSome])/\(∀l,r=some l->bG w' B v l)
def jW(f:Nat):Prop:=∀(st l:List Nd)(v p:Value)(w:World)(B:Nat),st.length+f=10->(∀n∈l,n.ok)->B<=w.heap.size->bG w B v l->cD w p st->Calls Tryz.prog 240 #[v,p] w fun e w'=>Told w' B e (ahead fQ f st l)/\Below w.heap.size w w'
theorem Tryz.my:(Tryz.prog.info? 9).map (fun i=>(i.zero,i.size,i.bytes))=some (some (.string ByteArray.empty),1,16):=by kernel_rfl
theorem rK{go:List Nd->Option (List Nd)}{m:Nat}{ls:List ByteArray}(h:0<m):bA go m ls []=none:=by cases m with|zero=>omega|succ m=>rfl
theorem jH{go:List Nd->Option (List Nd)}{m:Nat}{ls:List ByteArray}{n:Nd}{l:List Nd}(h:0<m)(j:(eE n&&!cw ls n.name)=false):bA go m ls (n::l)=none:=by cases m with|zero=>omega|succ m=>rw[bA,if_neg (by simp[j])]
theorem oV{go:List Nd->Option (List Nd)}{m:Nat}{ls:List ByteArray}{n:Nd}{l:List Nd}(h:0<m)(j:(eE n&&!cw ls n.name)=true)(C:go l=none):bA go m ls (n::l)=none:=by cases m with|zero=>omega|succ m=>rw[bA,if_pos j,C]
theorem uI{go:List Nd->Option (List Nd)}{m k:Nat}{ls:List ByteArray}{n:Nd}{l r:List Nd}(h:k<m)(j:(eE n&&!cw ls n.name)=true)(C:go l=some r):bA go (m-k) ls (n::l)=bA go (m-(k+1)) (ls++[n.name]) r:=by rw[show m-k=(m-(k+1))+1 from by omega,bA,if_pos j,C]
theorem pV{go:List Nd->Option (List Nd)}(C:∀l r,go l=some r->r<:+l):∀(m:Nat)(ls:List ByteArray)(l r:List Nd),bA go m ls l=some r->r<:+l
 |0,_,l,r,h=>by cases h;exact List.suffix_refl _|_+1,_,[],r,h=>by cases h|m+1,ls,n::l,r,h=>by
  rw[bA]at h;split at h;·
   split at h;·cases h
   ·rename_i r' j;exact(pV C m _ _ _ h).trans ((C _ _ j).trans (List.suffix_cons _ _))
  ·cases h
theorem fg(T:Nd->Bool):∀(f:Nat)(st l r:List Nd),ahead T f st l=some r->r<:+l:=by
 intro f;induction f with
  |zero=>
   intro st l r h;cases l with
    |nil=>cases h|cons n l=>
     rw[ahead]at h;repeat' split at h
     all_goals first|cases h;exact List.suffix_cons _ _|cases h
  |succ f ih=>
   intro st l r h;cases l with
    |nil=>cases h|cons n l=>
     rw[ahead]at h;repeat' split at h
     all_goals first|(cases h;exact List.suffix_cons _ _)|(cases h;done)|exact(ih _ _ _ h).trans (List.suffix_cons _ _)|exact(pV (ih _) _ _ _ _ h).trans (List.suffix_cons _ _)
theorem bG.tail{w:World}{B b o cap:Nat}{n:Nd}{l:List Nd}(C:b<B)(R:cV w b o (n::l))(J:(n::l).length<=cap)(T:cap<=9223372036854775807/\l.length<4294967296)(j:Option Addr)(P:cap≠1->j=some ⟨b,o+5,none⟩):bG w B (.slice j l.length (cap-1)) l:=by refine⟨j,cap-1,rfl,by simp at J;omega,by omega,fun I=>?_⟩;have:0<l.length:=List.length_pos_iff.2 I;simp at J;exact⟨b,o+5,P (by omega),C,R.2⟩
theorem vQ(f:Nat)(hf:jW f)(n:Nd)(st l:List Nd)(v p:Value)(w:World)(B:Nat)(bb:(n::st).length+f=10)(hm:1<=n.many/\n.many<=4)(ok:∀n∈l,n.ok)(hB:B<=w.heap.size)(hv:bG w B v l)(hp:cD w p (n::st)):Calls Tryz.prog 270 #[v,p] w fun e w'=>Told w' B e (bA (ahead fQ f (n::st)) n.many.toNat [] l)/\Below w.heap.size w w':=by
 have HP:=aa hp;have HV:=aa hv;have HF:=aa hf;have HO:=aa ok;have HL:=aa bb;have aM:=aa hB;obtain⟨bp,q,rfl,⟨h0,h1,h2,h3,h4⟩,h5,h6,h⟩:=hp;obtain⟨i0,hi,b3,b4,b5⟩:=info_parts Tryz.my;obtain⟨m,bn⟩:∃m:Nat,n.many=m:=⟨n.many.toNat,by omega⟩;rw[bn]at hm h3;have cl:1<=m:=by omega
 have cm:m<=4:=by omega
 rw[bn,Int.toNat_natCast];obtain⟨go,bm⟩:∃go,ahead fQ f (n::st)=go:=⟨_,rfl⟩;rw[bm];have HG:=aa bm;have HI:=aa (And.intro hi (And.intro b3 (And.intro b4 b5)));clear hf ok hv h0 h1 h2 h4 h5 h6 h hm bn bb bm hB hi b3 b4 b5;go_enter Tryz.func270,Tryz.ntmps270;go_wp2_with fail;go_loopw[0,6,14](fun v a3 i wr=>∃(k:Nat)(av:List Nd)(ls:List ByteArray),k<=m/\i=.int .i64 k/\ls.length=k/\(∀n∈av,n.ok)/\bG wr B v av/\wr.ownsRow w.heap.size 9 1 a3 ls.length (ls.map Value.string)/\Below w.heap.size w wr/\bA go (m-k) ls av=bA go m [] l)(fun _ _ i _=>m-(intOf i).toNat);case atStart=>exact⟨0,l,[],Nat.zero_le _,rfl,rfl,HO.out,HV.out,World.ownsRow_nil _ _ _ _,Below.refl _ _,rfl⟩
 case round=>
  obtain⟨k,av,ls,hk,rfl,bR,b1,b2,bf,a8,a9⟩:=hrel;have az:=aa bR;have al:=aa b1;have cd:=aa b2;have a6:=aa bf;have I:=aa a8;have J:=aa a9;clear bR b1 bf a8 a9;obtain⟨ao,cap,rfl,bL,ch,af⟩:=b2;have bv:=aa af;clear af;by_cases b0:k<m;·
   cases av with
    |nil=>
     go_wp2_with fail;go_ret2;refine⟨⟨.slice none 0 0,?_,?_⟩,I.out⟩;·rw[<-J.out,rK (by omega)];rfl
     ·rw[<-J.out,rK (by omega)];intro l h;cases h|cons n1 l1=>
     obtain⟨b,o,rfl,cg,af⟩:=bv.out (by simp);have HR:=aa af;obtain⟨⟨c0,c1,c2,c3,c4⟩,-⟩:=af;have bs:=aa cg;have bi:=aa (al.out n1 (by simp));have bx:=aa (eA a6.out (by have:=az.out;omega));have bB:b<wr.heap.size:=World.block_lt_of_cell? wr _ c0;have hz:((l1.length:Int)+1==0)=false:=beq_eq_false_iff_ne.2 (by omega);have b7:=aa bL;have ca:=aa ch;simp only[List.length_cons]at bL;cases a1:eE n1;·
      have ah:=aa a1;clear a1;go_wp2_with(go_at_call 296;refine(mF n1 _ bi.out).mono ?_;rintro e w1⟨rfl,R⟩;rw[ah.out];have ax:=aa R;clear R);go_ret2;have ac:bA go m [] l=none:=by rw[<-J.out];exact jH (by omega) (by rw[ah.out];rfl)
      refine⟨⟨.slice none 0 0,?_,?_⟩,I.out.trans (ax.out.mono I.out.size)⟩;·rw[ac];rfl
      ·rw[ac];intro l h;cases h
     ·have ah:=aa a1;clear a1;cases a2:cw ls n1.name;·
       have ay:=aa a2;clear a2;have an:=aa (show(eE n1&&!cw ls n1.name)=true by rw[ah.out,ay.out];rfl);go_wp2_with(first|(go_at_call 296;refine(mF n1 _ bi.out).mono ?_;rintro e w1⟨rfl,R⟩;rw[ah.out];obtain⟨g0,g1,g2,g3,g4⟩:=(HR.out.1.carry bB R);have bl:=aa (bx.out.carry R);have a4:=aa (iY a6.out R);have cn:=R.size;have ax:=aa R;clear R)|(go_at_call 184;refine(il ls n1.name _ _ bl.out).mono ?_;rintro e w2⟨rfl,rfl⟩;rw[ay.out])|(at_builtin;refine wpList_append_own _ rfl (.tmp 34) (.tmp 39) 42 rfl w.heap.size 9 i0 (.string ByteArray.empty) 1 16 Tryz.underlying42 HI.out.1 HI.out.2.1 HI.out.2.2.1 HI.out.2.2.2 rfl (by decide) _ _ _ rfl (a4.out.alloc _) ⟨_,0,none⟩ 1 1 [.string n1.name] rfl rfl ?c1 ?c2 ?c3 ?c4 ?c5 ?_));case c1=>intro j u hj;match j,hj with|0,hj=>simp at hj;subst hj;simp[Addr.add]
       case c2=>intro u hu;simp at hu;subst hu;rfl
       case c3=>have:=az.out;unfold maxLen;omega
       case c4=>have:=az.out;omega
       case c5=>have:=I.out.size;simp;omega
       intro v' w3 aN aq _;have a5:=aa aN;have a7:=aa ((ax.out.mono I.out.size).trans (((aO _ _).mono (by have:=I.out.size;omega)).grown aq (by have:=I.out.size;simp;omega) (gQ a4.out)));have C:=aa (I.out.trans a7.out);have cc:Hid (∀a0,(cap≠1->a0=some ⟨b,o+5,none⟩)->bG w3 B (.slice a0 l1.length (cap-1)) l1):=aa (fun a0 h=>bG.tail bs.out (HR.out.carry (Nat.lt_of_lt_of_le bs.out aM.out) a7.out) b7.out ca.out a0 h);have aR:=aa (cD.carry C.out HP.out);clear aN aq;by_cases bM:cap=1;·
        have cb:Hid (l1.length=0):=aa (by omega);have aL:Hid (bG w3 B (.slice (some ⟨b,o,none⟩) 0 0) l1):=aa (by rw[List.length_eq_zero_iff.1 cb.out];exact⟨_,_,rfl,Nat.le_refl _,by simp,fun h=>absurd rfl h⟩);subst bM;cases T:go l1 with
         |none=>
          have U:=aa T;clear T;go_wp2_with(go_at_call 240;refine(HF.out (n::st) l1 _ _ _ B HL.out (fun x hx=>al.out x (List.mem_cons_of_mem _ hx)) (Nat.le_trans aM.out C.out.size) aL.out aR.out).mono ?_;rintro e w4⟨⟨v4,rfl,P⟩,ab⟩;rw[HG.out,U.out,Option.isSome_none];have ad:=aa ab;clear P ab);go_ret2;have ac:bA go m [] l=none:=by rw[<-J.out];exact oV (by omega) an.out U.out
          refine⟨⟨.slice none 0 0,?_,?_⟩,C.out.trans (ad.out.mono C.out.size)⟩;·rw[ac];rfl
          ·rw[ac];intro l h;cases h|some r=>
          have U:=aa T;clear T;go_wp2_with(go_at_call 240;refine(HF.out (n::st) l1 _ _ _ B HL.out (fun x hx=>al.out x (List.mem_cons_of_mem _ hx)) (Nat.le_trans aM.out C.out.size) aL.out aR.out).mono ?_;rintro e w4⟨⟨v4,rfl,P⟩,ab⟩;rw[HG.out,U.out]at P|-;rw[Option.isSome_some];replace P:=P r rfl;have bk:=aa P;obtain⟨cf,bz,rfl,br⟩:=P;have ad:=aa ab;clear br ab);go_roundw;case rel=>
           refine⟨k+1,r,ls++[n1.name],by omega,by go_num,by have:=az.out;simp;omega,fun x hx=>al.out x (List.mem_cons_of_mem _ ((fg fQ f (n::st) l1 r (by rw[HG.out];exact U.out)).subset hx)),bk.out,?_,C.out.trans (ad.out.mono C.out.size),?_⟩;·have:=iY a5.out ad.out;simpa using this
           ·rw[<-J.out];exact(uI b0 an.out U.out).symm
          case measure=>simp[intOf];omega
       ·have aL:=aa (cc.out _ (fun _=>rfl));cases T:go l1 with
         |none=>
          have U:=aa T;clear T;go_wp2_with(go_at_call 240;refine(HF.out (n::st) l1 _ _ _ B HL.out (fun x hx=>al.out x (List.mem_cons_of_mem _ hx)) (Nat.le_trans aM.out C.out.size) aL.out aR.out).mono ?_;rintro e w4⟨⟨v4,rfl,P⟩,ab⟩;rw[HG.out,U.out,Option.isSome_none];have ad:=aa ab;clear P ab);go_ret2;have ac:bA go m [] l=none:=by rw[<-J.out];exact oV (by omega) an.out U.out
          refine⟨⟨.slice none 0 0,?_,?_⟩,C.out.trans (ad.out.mono C.out.size)⟩;·rw[ac];rfl
          ·rw[ac];intro l h;cases h|some r=>
          have U:=aa T;clear T;go_wp2_with(go_at_call 240;refine(HF.out (n::st) l1 _ _ _ B HL.out (fun x hx=>al.out x (List.mem_cons_of_mem _ hx)) (Nat.le_trans aM.out C.out.size) aL.out aR.out).mono ?_;rintro e w4⟨⟨v4,rfl,P⟩,ab⟩;rw[HG.out,U.out]at P|-;rw[Option.isSome_some];replace P:=P r rfl;have bk:=aa P;obtain⟨cf,bz,rfl,br⟩:=P;have ad:=aa ab;clear br ab);go_roundw;case rel=>
           refine⟨k+1,r,ls++[n1.name],by omega,by go_num,by have:=az.out;simp;omega,fun x hx=>al.out x (List.mem_cons_of_mem _ ((fg fQ f (n::st) l1 r (by rw[HG.out];exact U.out)).subset hx)),bk.out,?_,C.out.trans (ad.out.mono C.out.size),?_⟩;·have:=iY a5.out ad.out;simpa using this
           ·rw[<-J.out];exact(uI b0 an.out U.out).symm
          case measure=>simp[intOf];omega
      ·have ay:=aa a2;clear a2;go_wp2_with(first|(go_at_call 296;refine(mF n1 _ bi.out).mono ?_;rintro e w1⟨rfl,R⟩;rw[ah.out];obtain⟨g0,g1,g2,g3,g4⟩:=(HR.out.1.carry bB R);have bl:=aa (bx.out.carry R);have ax:=aa R;clear R)|(go_at_call 184;refine(il ls n1.name _ _ bl.out).mono ?_;rintro e w2⟨rfl,rfl⟩;rw[ay.out]));go_ret2;have ac:bA go m [] l=none:=by rw[<-J.out];exact jH (by omega) (by rw[ah.out,ay.out];rfl)
       refine⟨⟨.slice none 0 0,?_,?_⟩,I.out.trans (ax.out.mono I.out.size)⟩;·rw[ac];rfl
       ·rw[ac];intro l h;cases h
  ·go_wp2_with fail;go_ret2;have bN:k=m:=by omega
   refine⟨⟨.slice ao av.length cap,?_,?_⟩,I.out⟩;·rw[<-J.out,bN,Nat.sub_self];rfl
   ·rw[<-J.out,bN,Nat.sub_self];intro l h;cases h;exact cd.out
def Nd.cells(n:Nd):List Value:=[.int .i64 n.op,.string n.name,.string n.peer,.int .i64 n.many,.int .i64 n.sort]
theorem Nd.bg(n:Nd):n.cells.length=5:=rfl
theorem Nd.cells_one(n:Nd):∀u∈n.cells,u.oneCell'=true:=by intro u hu;simp[Nd.cells]at hu;rcases hu with rfl|rfl|rfl|rfl|rfl<;>rfl
theorem iu(l:List Nd):∀u∈l.flatMap Nd.cells,u.oneCell'=true:=fun u hu=>by obtain⟨x,_,j⟩:=List.mem_flatMap.1 hu;exact Nd.cells_one x u j
def bX(w:World)(base:Nat)(v:Value)(l:List Nd):Prop:=w.ownsRow base 156 5 v l.length (l.flatMap Nd.cells)
theorem bX.below{w w':World}{base:Nat}{v:Value}{l:List Nd}(h:bX w base v l)(j:Below w.heap.size w w'):bX w' base v l:=aQ h j
theorem bX.snoc{w:World}{base:Nat}{v:Value}{l r:List Nd}(h:w.ownsRow base 156 5 v (l.length+r.length) (l.flatMap Nd.cells++r.flatMap Nd.cells)):bX w base v (l++r):=by unfold bX;rw[List.length_append,List.flatMap_append];exact h
theorem bX.at_{w:World}{base:Nat}{v:Value}{l:List Nd}(h:bX w base v l)(J:0<l.length):∃g c,v=.slice (some ⟨g,0,none⟩) l.length c/\g<w.heap.size/\base<=g:=by
 rcases h.2 with⟨_,R⟩|⟨g,cap,C,P,I,j,_⟩;·omega
 ·exact⟨g,cap,P,(Array.getElem?_eq_some_iff.1 j).1,I⟩
theorem bX.cell{w:World}{base g c:Nat}{l:List Nd}(h:bX w base (.slice (some ⟨g,0,none⟩) l.length c) l)(j:Nat)(u:Value)(C:(l.flatMap Nd.cells)[j]?=some u):w.cell? (Addr.add ⟨g,0,none⟩ j)=some u:=by
 have e:Addr.add ⟨g,0,none⟩ j=⟨g,j,none⟩:=by unfold Addr.add;split<;>simp_all
 rw[e];exact cQ h rfl j u C
theorem fw(w:World)(n:Nd)(base b:Nat)(l:b=w.heap.size)(j:base<=w.heap.size):bX (w.alloc (.cells #[.int .i64 n.op,.string n.name,.string n.peer,.int .i64 n.many,.int .i64 n.sort] 156)) base (.slice (some ⟨b,0,none⟩) 1 1) [n]:=by subst l;have:=World.ownsRow_lit (e:=156) (size:=5) (base:=base) w #[.int .i64 n.op,.string n.name,.string n.peer,.int .i64 n.many,.int .i64 n.sort] 1 j (by simp[maxLen]) rfl;unfold bX;simpa[Nd.cells]using this
theorem Tryz.oS:(Tryz.prog.info? 156).map (fun i=>(i.zero,i.size,i.bytes))=some (some (.agg #[.int .i64 0,.string ByteArray.empty,.string ByteArray.empty,.int .i64 0,.int .i64 0]),5,56):=by kernel_rfl
theorem db{T:Nd->Bool}{f:Nat}{st l:List Nd}{n:Nd}(h:n.op=0):ahead T f st (n::l)=if ic n then some l else none:=by cases f<;>simp[ahead,h]
theorem dr{T:Nd->Bool}{f:Nat}{st l:List Nd}{n:Nd}(h:n.op=1):ahead T f st (n::l)=if oG n&&eR false st n.name then some l else none:=by cases f<;>simp[ahead,h]
theorem dA{T:Nd->Bool}{f:Nat}{st l:List Nd}{n:Nd}(h:n.op=2):ahead T (f+1) st (n::l)=if iJ n&&!bW st n.name then ahead T f (n::st) l else none:=by simp[ahead,h]
theorem fG{T:Nd->Bool}{st l:List Nd}{n:Nd}(h:n.op=2):ahead T 0 st (n::l)=none:=by simp[ahead,h]
theorem fA{T:Nd->Bool}{f:Nat}{st l:List Nd}{n:Nd}(j:n.op≠0)(C:n.op≠1)(I:n.op≠2):ahead T (f+1) st (n::l)=if T n then bA (ahead T f (n::st)) n.many.toNat [] l else none:=by simp[ahead,j,C,I]
theorem fm{T:Nd->Bool}{st l:List Nd}{n:Nd}(j:n.op≠0)(C:n.op≠1):ahead T 0 st (n::l)=none:=by simp[ahead,j,C]
theorem Ff{T:Nd->Bool}{f:Nat}{st l:List Nd}{n:Nd}(j:n.op≠0)(C:n.op≠1)(I:n.op≠2)(J:T n=false):ahead T f st (n::l)=none:=by cases f<;>simp[ahead,j,C,I,J]
theorem i7{w w':World}{B:Nat}{v:Value}{x:Bool}{r:Option (List Nd)}{I:List Nd}(P:bG w B v I)(J:B<=w.heap.size)(C:Below w.heap.size w w')(j:r=if x then some I else none):Told w' B (.returned (.tuple #[v,.bool x])) r/\Below w.heap.size w w':=by
 refine⟨⟨v,?_,?_⟩,C⟩;·cases x<;>simp[j]
 ·intro l hl;cases x;·simp[j]at hl
  ·simp[j]at hl;subst hl;exact P.carry (C.mono J)
theorem iq{w w':World}{B:Nat}{v:Value}{r:Option (List Nd)}(C:Below w.heap.size w w')(j:r=none):Told w' B (.returned (.tuple #[v,.bool false])) r/\Below w.heap.size w w':=by refine⟨⟨v,by rw[j];rfl,?_⟩,C⟩;rw[j];intro l hl;cases hl
theorem Az{w C w':World}{B:Nat}{e:Ending}{r r':Option (List Nd)}(h:Told w' B e r')(j:Below w.heap.size w C)(l:Below C.heap.size C w')(I:r=r'):Told w' B e r/\Below w.heap.size w w':=⟨I▸h,j.trans (l.mono j.size)⟩
theorem boxed(w:World)(n:Nd)(t:TypeId):cZ (w.alloc (.cells #[.int .i64 n.op,.string n.name,.string n.peer,.int .i64 n.many,.int .i64 n.sort] t)).drew w.heap.size 0 n:=by simp[cZ]
theorem Ei(f:Nat)(az:∀g,f=g+1->jW g)(st:List Nd)(name j:ByteArray)(many l:Int)(P:List Nd)(p:Value)(w:World)(B b o cap:Nat)(ab:st.length+f=10)(ok:∀x∈⟨2,name,j,many,l⟩::P,x.ok)(hB:B<=w.heap.size)(ad:b<B)(af:(⟨2,name,j,many,l⟩::P).length<=cap)(ah:cap<=9223372036854775807/\P.length<4294967296)(T:cV w b o (⟨2,name,j,many,l⟩::P))(hp:cD w p st):Calls Tryz.prog 240 #[.slice (some ⟨b,o,none⟩) (⟨2,name,j,many,l⟩::P:List Nd).length cap,p] w fun e w'=>Told w' B e (ahead fQ f st (⟨2,name,j,many,l⟩::P))/\Below w.heap.size w w':=by
 have HP:=aa hp;have HO:=aa ok;have HN:=aa (ok ⟨2,name,j,many,l⟩ (by simp));have HL:=aa ab;have HB:=aa hB;have a2:=aa ad;have HR:=aa T;have a3:=aa af;have a4:=aa ah;obtain⟨u,rfl⟩:=hp.shape;have ax:=af;simp only[List.length_cons]at af;have U:=T;obtain⟨⟨c0,c1,c2,c3,c4⟩,-⟩:=T;dsimp only at c0 c1 c2 c3 c4;have a5:b<w.heap.size:=World.block_lt_of_cell? w _ c0;have hz:((P.length:Int)+1==0)=false:=beq_eq_false_iff_ne.2 (by omega);by_cases ay:cap=1;case' pos=>have a0:Hid (P.length=0):=aa (by omega);have ao:Hid (bG w B (.slice (some ⟨b,o,none⟩) 0 0) P):=aa (by rw[List.length_eq_zero_iff.1 a0.out];exact⟨_,_,rfl,Nat.le_refl _,by simp,fun h=>absurd rfl h⟩);subst ay
 case' neg=>have ao:Hid (bG w B (.slice (some ⟨b,o+5,none⟩) P.length (cap-1)) P):=aa (bG.tail ad U ax ah _ (fun _=>rfl))
 all_goals
  clear U ax;clear ok ab hB ad hp ah;have an:=aa (show tB st=(f==0)by rw[tB];have:=HL.out;cases f<;>simp<;>omega);obtain⟨rb,aL⟩:∃rb,iJ ⟨2,name,j,many,l⟩=rb:=⟨_,rfl⟩;obtain⟨wi,aN⟩:∃wi,bW st name=wi:=⟨_,rfl⟩;have J:=aa aL;have R:=aa aN;clear aL aN;cases rb;·
   go_enter Tryz.func240,Tryz.ntmps240;go_wp2_with fail;go_region;go_wp2_with(go_at_call 265;refine(lX ⟨2,name,j,many,l⟩ _ HN.out).mono ?_;rintro e w1⟨rfl,C⟩;rw[J.out];obtain⟨d0,d1,d2,d3,d4⟩:=cZ.carry (B:=_) (boxed w ⟨2,name,j,many,l⟩ 156) (by simp) C;dsimp only at d0 d1 d2 d3 d4;have al:w.heap.size<w1.heap.size:=(by have:=C.size;simp at this;omega);have I:Hid (Below w.heap.size w w1):=aa ((aO _ _).drew.trans (C.mono (by simp)));clear C);go_ret2;refine iq I.out ?_;cases f;·exact fG rfl
   ·rw[dA rfl,J.out];rfl
  ·cases wi;·cases f with|zero=>go_enter Tryz.func240,Tryz.ntmps240;go_wp2_with fail;go_region;go_wp2_with(first|(go_at_call 265;refine(lX ⟨2,name,j,many,l⟩ _ HN.out).mono ?_;rintro e w1⟨rfl,C⟩;rw[J.out];obtain⟨d0,d1,d2,d3,d4⟩:=cZ.carry (B:=_) (boxed w ⟨2,name,j,many,l⟩ 156) (by simp) C;dsimp only at d0 d1 d2 d3 d4;have al:w.heap.size<w1.heap.size:=(by have:=C.size;simp at this;omega);have I:Hid (Below w.heap.size w w1):=aa ((aO _ _).drew.trans (C.mono (by simp)));clear C)|(go_at_call 266;refine(r7 st _ name _ (cD.carry I.out HP.out)).mono ?_;rintro e w'⟨rfl,rfl⟩;rw[R.out])|(go_at_call 267;refine(uV st _ _ (cD.carry I.out HP.out)).mono ?_;rintro e w'⟨rfl,rfl⟩;rw[an.out,show((0:Nat)==0)=true from rfl]));go_ret2;refine iq I.out ?_;exact fG rfl|succ f=>have HI:=aa (az f rfl);clear az;go_enter Tryz.func240,Tryz.ntmps240;go_wp2_with fail;go_region;go_wp2_with(first|(go_at_call 265;refine(lX ⟨2,name,j,many,l⟩ _ HN.out).mono ?_;rintro e w1⟨rfl,C⟩;rw[J.out];obtain⟨d0,d1,d2,d3,d4⟩:=cZ.carry (B:=_) (boxed w ⟨2,name,j,many,l⟩ 156) (by simp) C;dsimp only at d0 d1 d2 d3 d4;have al:w.heap.size<w1.heap.size:=(by have:=C.size;simp at this;omega);have I:Hid (Below w.heap.size w w1):=aa ((aO _ _).drew.trans (C.mono (by simp)));clear C)|(go_at_call 266;refine(r7 st _ name _ (cD.carry I.out HP.out)).mono ?_;rintro e w'⟨rfl,rfl⟩;rw[R.out])|(go_at_call 267;refine(uV st _ _ (cD.carry I.out HP.out)).mono ?_;rintro e w'⟨rfl,rfl⟩;rw[an.out,show(f+1==0)=false from rfl]));go_wp2_with(first|(go_at_call 268;refine(Ad st _ ⟨2,name,j,many,l⟩ _ (cD.carry I.out HP.out) (by have:=HL.out;omega)).mono ?_;rintro e w2⟨q,rfl,hq,aq⟩;obtain⟨uq,rfl⟩:=hq.shape;have HQ:=aa hq;have ac:=aa (I.out.trans (aq.mono I.out.size));clear hq aq)|(go_at_call 240;refine(HI.out (⟨2,name,j,many,l⟩::st) P _ _ _ B (by have:=HL.out;simp;omega) (fun x hx=>HO.out x (List.mem_cons_of_mem _ hx)) (Nat.le_trans HB.out ac.out.size) (ao.out.carry (ac.out.mono HB.out)) HQ.out).mono ?_;rintro e w3⟨⟨v3,rfl,aM⟩,av⟩;have a1:=aa aM;have aR:=aa av;clear aM av));go_ret2;exact Az ⟨v3,rfl,a1.out⟩ ac.out aR.out (by rw[dA rfl,J.out];simp[R.out])
   ·go_enter Tryz.func240,Tryz.ntmps240;go_wp2_with fail;go_region;go_wp2_with(first|(go_at_call 265;refine(lX ⟨2,name,j,many,l⟩ _ HN.out).mono ?_;rintro e w1⟨rfl,C⟩;rw[J.out];obtain⟨d0,d1,d2,d3,d4⟩:=cZ.carry (B:=_) (boxed w ⟨2,name,j,many,l⟩ 156) (by simp) C;dsimp only at d0 d1 d2 d3 d4;have al:w.heap.size<w1.heap.size:=(by have:=C.size;simp at this;omega);have I:Hid (Below w.heap.size w w1):=aa ((aO _ _).drew.trans (C.mono (by simp)));clear C)|(go_at_call 266;refine(r7 st _ name _ (cD.carry I.out HP.out)).mono ?_;rintro e w'⟨rfl,rfl⟩;rw[R.out]));go_ret2;refine iq I.out ?_;cases f;·exact fG rfl
    ·rw[dA rfl];simp[R.out]
abbrev df:ByteArray:=ByteArray.empty
structure Br(α:Type)where
 l:ByteArray
 s:Int
 p:α
structure Tk where
 op:Int
 a:ByteArray
 b:ByteArray
def Pn:Nat->Type|0=>Option ByteArray|n+1=>Sum (Option ByteArray) (Sum (ByteArray×Pn n) (Tk×List (Br (Pn n))))
def Pn.leaf{n:Nat}(x:Option ByteArray):Pn (n+1):=Sum.inl x
def Pn.loop{n:Nat}(x:ByteArray)(q:Pn n):Pn (n+1):=Sum.inr (Sum.inl (x,q))
def Pn.cU{n:Nat}(t:Tk)(l:List (Br (Pn n))):Pn (n+1):=Sum.inr (Sum.inr (t,l))
theorem Pn.cases{n:Nat}{P:Pn (n+1)->Prop}(j:∀x,P (.leaf x))(C:∀x q,P (.loop x q))(I:∀t l,P (.cU t l)):∀p,P p|Sum.inl x=>j x|Sum.inr (Sum.inl (x,q))=>C x q|Sum.inr (Sum.inr (t,l))=>I t l
def Pn.by{n:Nat}{β:Type}(j:Option ByteArray->β)(C:ByteArray->Pn n->β)(I:Tk->List (Br (Pn n))->β):Pn (n+1)->β|Sum.inl x=>j x|Sum.inr (Sum.inl (x,q))=>C x q|Sum.inr (Sum.inr (t,l))=>I t l
def bO:Option ByteArray->List Nd|none=>[⟨0,df,df,0,0⟩]|some x=>[⟨1,x,df,0,0⟩]
def aV{α:Type}(f:α->List Nd)(l:List (Br α)):List Nd:=l.flatMap fun b=>⟨4,b.l,df,0,b.s⟩::f b.p
theorem cC{α:Type}(f:α->List Nd)(b:Br α)(l:List (Br α)):aV f (b::l)=⟨4,b.l,df,0,b.s⟩::(f b.p++aV f l):=by rw[aV,List.flatMap_cons];rfl
theorem iT{α:Type}(f:α->List Nd)(l r:List (Br α)):aV f (l++r)=aV f l++aV f r:=by unfold aV;rw[List.flatMap_append]
def aw:(n:Nat)->Pn n->List Nd|0,x=>bO x|n+1,p=>p.by bO (fun x q=>⟨2,x,df,0,0⟩::aw n q) (fun t l=>⟨t.op,t.a,t.b,(l.length:Int),0⟩::aV (aw n) l)
theorem El{n:Nat}(x:Option ByteArray):aw (n+1) (.leaf x)=bO x:=rfl
theorem cO{n:Nat}(x:ByteArray)(q:Pn n):aw (n+1) (.loop x q)=⟨2,x,df,0,0⟩::aw n q:=rfl
theorem bI{n:Nat}(t:Tk)(l:List (Br (Pn n))):aw (n+1) (.cU t l)=⟨t.op,t.a,t.b,(l.length:Int),0⟩::aV (aw n) l:=rfl
def oe(a b:Nd):Bool:=a.op==b.op&&a.name.toList==b.name.toList&&a.peer.toList==b.peer.toList&&a.many==b.many&&a.sort==b.sort
def fC:List Nd->List Nd->Bool|[],[]=>true|a::l,b::r=>oe a b&&fC l r|_,_=>false
def gI{α:Type}(t:ByteArray):List (Br α)->Option Nat|[]=>none|b::r=>if b.l.toList==t.toList then some 0 else(gI t r).map (·+1)
def bP{α:Type}(mg:α->α->Option α):List (Br α)->List (Br α)->Option (List (Br α))|j,[]=>some j|j,d::ds=>match gI d.l j with|none=>bP mg (j++[d]) ds|some i=>match j[i]? with|none=>none|some b=>match mg b.p d.p with|none=>none|some q=>if b.s==d.s then bP mg (j.set i ⟨b.l,b.s,q⟩) ds else none
def j7{n:Nat}(p:Pn (n+1)):Option (ByteArray×List (Br (Pn n))):=p.by (fun _=>none) (fun _ _=>none) (fun t l=>if t.op==6 then some (t.b,l)else none)
def aU:(n:Nat)->Pn n->Pn n->Option (Pn n)|0,x,y=>if fC (aw 0 x) (aw 0 y)then some x else none|n+1,x,y=>if fC (aw (n+1) x) (aw (n+1) y)then some x else match j7 x,j7 y with|some (a,cs),some (b,ds)=>if a.toList==b.toList then match bP (aU n) cs ds with|some l=>if l.length<=4 then some (.cU ⟨6,df,a⟩ l)else none|none=>none else none|_,_=>none
def bF{α:Type}(mg:α->α->Option α):α->List (Br α)->Option α|x,[]=>some x|x,b::r=>match mg x b.p with|none=>none|some q=>bF mg q r
def di(role:ByteArray)(l:List Nd):Bool:=l.any fun n=>n.op==3&&(n.name.toList==role.toList||n.peer.toList==role.toList)
def bZ:List ByteArray->List Nd->Bool|_,[]=>true|ns,n::l=>if n.op==2 then bZ (ns++[n.name]) l else if n.op==1&&!cw ns n.name then false else bZ ns l
def j9(role:ByteArray)(l:List Nd):Bool:=!di role l&&bZ [] l
def nF:(n:Nat)->Pn n->Pn (n+1)|0,x=>.leaf x|n+1,p=>p.by (fun x=>.leaf x) (fun x q=>.loop x (nF n q)) (fun t l=>.cU t (l.map fun b=>⟨b.l,b.s,nF n b.p⟩))
def bt{α:Type}(f:α->Option α):List (Br α)->Option (List (Br α))|[]=>some []|b::l=>match f b.p with|none=>none|some q=>match bt f l with|none=>none|some r=>some (⟨b.l,b.s,q⟩::r)
def ba(role:ByteArray):(n:Nat)->Pn n->Option (Pn n)|0,x=>some x|n+1,p=>p.by (fun x=>some (.leaf x)) (fun x q=>if j9 role (aw (n+1) (.loop x q))then some (.leaf none)else(ba role n q).map (Pn.loop x)) (fun t l=>match bt (ba role n) l with|none=>none|some r=>if role.toList==t.a.toList then some (.cU ⟨5,df,t.b⟩ r)else if role.toList==t.b.toList then some (.cU ⟨6,df,t.a⟩ r)else match r with|[]=>none|c::r=>(bF (aU n) c.p r).map (nF n))
theorem zh:∀(n:Nat)(p:Pn n),aw (n+1) (nF n p)=aw n p:=by
 intro n;induction n with
  |zero=>intro p;rfl|succ n ih=>
   refine Pn.cases (fun x=>rfl) (fun x q=>?_) (fun t l=>?_);·show(⟨2,x,df,0,0⟩:Nd)::aw (n+1) (nF n q)=_;rw[ih q];rfl
   ·show(⟨t.op,t.a,t.b,((l.map fun b=>(⟨b.l,b.s,nF n b.p⟩:Br (Pn (n+1)))).length:Int),0⟩:Nd)::aV (aw (n+1)) (l.map fun b=>⟨b.l,b.s,nF n b.p⟩)=_;rw[List.length_map,bI,aV,aV,List.flatMap_map];congr 2;funext b;rw[ih b.p]
theorem lC{t:ByteArray}(h:(t.toList==[])=true):t=df:=by have j:=beq_iff_eq.1 h;rw[Go.ByteArray.toList_eq]at j;apply ByteArray.ext;exact Array.ext' j
def bY:(n:Nat)->Pn n->Prop|0,_=>True|n+1,p=>p.by (fun _=>True) (fun _ q=>bY n q) (fun t l=>t.op=3/\(t.a.toList==t.b.toList)=false/\1<=l.length/\l.length<=4/\∀b∈l,bY n b.p)
theorem rN{go:List Nd->Option (List Nd)}{n:Nat}(C:∀l r,go l=some r->∃p:Pn n,l=aw n p++r/\bY n p):∀(m:Nat)(ls:List ByteArray)(l r:List Nd),bA go m ls l=some r->∃cs:List (Br (Pn n)),cs.length=m/\l=aV (aw n) cs++r/\∀b∈cs,bY n b.p
 |0,ls,l,r,h=>by rw[bA]at h;injection h with h;subst h;exact⟨[],rfl,rfl,fun b j=>by cases j⟩|m+1,ls,[],r,h=>by cases h|m+1,ls,c::l,r,h=>by
  rw[bA]at h;split at h;·
   rename_i T;split at h;·cases h
   ·rename_i r1 R;obtain⟨p,e,hp⟩:=C l r1 R;obtain⟨cs,hl,U,P⟩:=rN C m _ _ _ h;obtain⟨op,name,I,many,sort⟩:=c;simp only[eE,Bool.and_eq_true,beq_iff_eq]at T;obtain⟨⟨⟨⟨⟨h1,h2⟩,h3⟩,-⟩,-⟩,-⟩:=T;have J:I=df:=lC (by simpa using h2);subst h1;subst J;subst h3;refine⟨⟨name,sort,p⟩::cs,by rw[List.length_cons,hl],?_,?_⟩;·rw[e,U,cC,List.cons_append,List.append_assoc]
    ·intro b j;rw[List.mem_cons]at j;rcases j with rfl|j;·exact hp
     ·exact P b j
  ·cases h
theorem rP{f:Nat}{st l r:List Nd}{n:Nd}(h:ahead (bC false) f st (n::l)=some r)(R:n.op=0\/n.op=1):∃x,n::l=bO x++r:=by
 obtain⟨op,name,j,many,sort⟩:=n;rcases R with P|h1;·
  rw[db P]at h;split at h;·rename_i J;injection h with h;subst h;dsimp only at P;subst P;simp only[ic,Bool.and_eq_true,beq_iff_eq]at J;obtain⟨⟨⟨⟨-,T⟩,U⟩,h3⟩,h4⟩:=J;have I:name=df:=lC (by simpa using T);have C:j=df:=lC (by simpa using U);subst I;subst C;subst h3;subst h4;exact⟨none,rfl⟩
  ·cases h
 ·rw[dr h1]at h;split at h;·rename_i J;injection h with h;subst h;dsimp only at h1;subst h1;simp only[oG,Bool.and_eq_true,beq_iff_eq]at J;obtain⟨⟨⟨⟨-,U⟩,h3⟩,h4⟩,-⟩:=J;have C:j=df:=lC (by simpa using U);subst C;subst h3;subst h4;exact⟨some name,rfl⟩
  ·cases h
theorem Jo:∀(f:Nat)(st l r:List Nd),ahead (bC false) f st l=some r->∃p:Pn f,l=aw f p++r/\bY f p:=by
 intro f;induction f with
  |zero=>
   intro st l r h;cases l with
    |nil=>cases h|cons n l=>
     by_cases j:n.op=0\/n.op=1;·obtain⟨x,e⟩:=rP h j;exact⟨x,e,trivial⟩
     ·rw[fm (fun h=>j (.inl h)) (fun h=>j (.inr h))]at h;cases h
  |succ f ih=>
   intro st l r h;cases l with
    |nil=>cases h|cons n l=>
     by_cases j:n.op=0\/n.op=1;·obtain⟨x,e⟩:=rP h j;exact⟨.leaf x,e,trivial⟩
     ·obtain⟨op,name,C,many,sort⟩:=n;have h0:op≠0:=fun h=>j (.inl h);have h1:op≠1:=fun h=>j (.inr h);by_cases I:op=2;·
       rw[dA I]at h;split at h;·rename_i J;subst I;simp only[iJ,Bool.and_eq_true,beq_iff_eq]at J;obtain⟨⟨⟨⟨⟨-,I⟩,R⟩,T⟩,-⟩,-⟩:=J;have P:C=df:=lC (by simpa using I);subst P;subst R;subst T;obtain⟨p,e,hp⟩:=ih _ l r h;exact⟨.loop name p,by rw[cO,e];rfl,hp⟩
       ·cases h
      ·rw[fA h0 h1 I]at h;split at h;·
        rename_i J;simp only[bC,jJ,Bool.and_eq_true,decide_eq_true_eq,beq_iff_eq,Bool.not_eq_true',Bool.false_eq_true,if_false]at J;obtain⟨⟨⟨-,hm⟩,T⟩,⟨R,-⟩,ab⟩:=J;dsimp only at h;obtain⟨cs,hl,e,U⟩:=rN (fun l r=>ih _ l r) _ _ _ _ h;subst R;subst T;have hM:many=(cs.length:Int):=by rw[hl];omega
        subst hM;exact⟨.cU ⟨3,name,C⟩ cs,by rw[bI,e];rfl,rfl,ab,by omega,by omega,U⟩
       ·cases h
