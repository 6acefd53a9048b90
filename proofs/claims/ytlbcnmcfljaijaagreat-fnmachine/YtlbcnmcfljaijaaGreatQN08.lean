import Derived.Test.YtlbcnmcfljaijaaGreatRows
import Derived.Test.YtlbcnmcfljaijaaGreatQN00
import Derived.Deep.RegionWith
import Derived.Deep.LoopGhost
import Derived.Laws.OwnMore
namespace Go.Proofs.YtlbcnmcfljaijaaGreat
open Go.RowKit
set_option linter.unusedSimpArgs false
set_option linter.unusedVariables false
set_option maxHeartbeats 800000
structure Nd where
 op:Int
 name:ByteArray
 peer:ByteArray
 many:Int
 sort:Int
def Nd.val(n:Nd):Value:=.agg #[.int .i64 n.op,.string n.name,.string n.peer,.int .i64 n.many,.int .i64 n.sort]
def Nd.ok(n:Nd):Prop:=n.name.size≤maxLen∧n.peer.size≤maxLen
def bJ(t:ByteArray):Bool:=du t&&(!(t.toList==[101,110,100])&&!(t.toList==[114,101,99]))
def jF(n:Int):Bool:=decide (0≤n)&&decide (n≤2)
def fB(n:Int):Bool:=decide (1≤n)&&decide (n≤4)
def gS(n:Nd):Bool:=n.op==2&&n.peer.toList==[]&&n.many==0&&n.sort==0&&bJ n.name
def mJ(n:Nd):Bool:=n.op==1&&n.peer.toList==[]&&n.many==0&&n.sort==0
def gO(n:Nd):Bool:=n.op==0&&n.name.toList==[]&&n.peer.toList==[]&&n.many==0&&n.sort==0
def oB(n:Nd):Bool:=if n.op==3 then bJ n.name&&!(n.name.toList==n.peer.toList)else n.name.toList==[]
def cP(n:Nd):Bool:=(n.op==3||n.op==5||n.op==6)&&n.sort==0&&fB n.many&&bJ n.peer&&oB n
def aQ(j:Bool)(n:Nd):Bool:=bJ n.peer&&fB n.many&&n.sort==0&&(if j then n.name.toList==[]&&(n.op==5||n.op==6)else n.op==3&&bJ n.name&&!(n.name.toList==n.peer.toList))
def cI(n:Nd):Bool:=n.op==4&&n.peer.toList==[]&&n.many==0&&bJ n.name&&jF n.sort
theorem aC(w:World)(o:Obj):Below w.heap.size w (w.alloc o):=(Below.refl _ _).alloc (Nat.le_refl _) o
theorem lG(t:ByteArray)(w:World)(C:t.size≤maxLen):Calls Tryz.prog 159 #[.string t] w fun e w'=>e=.returned (.bool (bJ t))∧w'=w:=by obtain⟨b,l⟩:∃b,du t=b:=⟨_,rfl⟩;have j:=aa l;have I:=aa C;clear l C;cases b;all_goals go_enter Tryz.func159,Tryz.ntmps159;go_wp2_with(go_at_call 91;refine(uG t _ (a6 I)).mono ?_;rintro e w'⟨rfl,rfl⟩;rw[a6 j]);all_goals go_ret;refine⟨aF ?_,rfl⟩;rw[bJ,a6 j];simp[*]
theorem iq(t:ByteArray)(w:World)(C:t.size≤maxLen):Calls Tryz.prog 152 #[.string t] w fun e w'=>e=.returned (.bool (bJ t))∧w'=w:=by obtain⟨b,l⟩:∃b,du t=b:=⟨_,rfl⟩;have j:=aa l;have I:=aa C;clear l C;cases b;all_goals go_enter Tryz.func152,Tryz.ntmps152;go_wp2_with(go_at_call 60;refine(mY t _ (a6 I)).mono ?_;rintro e w'⟨rfl,rfl⟩;rw[a6 j]);all_goals go_ret;refine⟨aF ?_,rfl⟩;rw[bJ,a6 j];simp[*]
theorem KD(n j hi:Int)(w:World):Calls Tryz.prog 59 #[.int .i64 n,.int .i64 j,.int .i64 hi] w fun e w'=>e=.returned (.bool (decide (j≤n)&&decide (n≤hi)))∧w'=w:=by by_cases h:j≤n;all_goals go_enter Tryz.func59,Tryz.ntmps59;go_wp2_with fail;go_ret;refine⟨aF ?_,rfl⟩;simp[*];try omega
theorem vN(n:Int)(w:World):Calls Tryz.prog 61 #[.int .i64 n] w fun e w'=>e=.returned (.bool (jF n))∧w'=w:=by go_enter Tryz.func61,Tryz.ntmps61;go_wp2_with(go_at_call 59;refine(KD _ _ _ _).mono ?_;rintro e w'⟨rfl,rfl⟩);go_ret;exact⟨aF rfl,rfl⟩
theorem zJ(n:Int)(w:World):Calls Tryz.prog 92 #[.int .i64 n] w fun e w'=>e=.returned (.bool (jF n))∧w'=w:=by by_cases h:0≤n;all_goals go_enter Tryz.func92,Tryz.ntmps92;go_wp2_with fail;go_ret;exact⟨aF (by simp[jF, *];try omega),rfl⟩
theorem gK(n:Nd)(w:World)(ok:n.ok):Calls Tryz.prog 134 #[n.val] w fun e w'=>e=.returned (.bool (gS n))∧Below w.heap.size w w':=by have j:gS n=(n.op==2&&n.peer.toList==[]&&n.many==0&&n.sort==0&&bJ n.name):=rfl;have l:=aa j;have C:=aa ok.1;clear j ok;unfold Nd.val;go_enter Tryz.func134,Tryz.ntmps134;go_wp2_with(go_at_call 159;refine(lG n.name _ (a6 C)).mono ?_;rintro e w'⟨rfl,rfl⟩);all_goals go_ret;refine⟨aF ?_,aC _ _⟩;rw[a6 l];simp[*]
theorem yF(n:Nd)(w:World)(ok:n.ok):Calls Tryz.prog 160 #[n.val] w fun e w'=>e=.returned (.bool (oB n))∧Below w.heap.size w w':=by
 have I:=aa (show oB n=(if n.op==3 then bJ n.name&&!(n.name.toList==n.peer.toList)else n.name.toList==[])from rfl);obtain⟨b,l⟩:∃b,bJ n.name=b:=⟨_,rfl⟩;have j:=aa l;have J:=aa ok.1;obtain⟨c,P⟩:∃c,(n.op==3)=c:=⟨_,rfl⟩;have C:=aa P;clear l ok;unfold Nd.val;cases b;all_goals cases c
 all_goals go_enter Tryz.func160,Tryz.ntmps160;go_wp2_with(go_at_call 159;refine(lG n.name _ (a6 J)).mono ?_;rintro e w'⟨rfl,rfl⟩;rw[a6 j]);all_goals go_ret;refine⟨aF ?_,aC _ _⟩;rw[a6 I,a6 j,a6 C];simp[*]
theorem cd(n:Nd)(w:World)(ok:n.ok)(l:n.op=3∨n.op=5∨n.op=6):Calls Tryz.prog 138 #[n.val] w fun e w'=>e=.returned (.bool (cP n))∧Below w.heap.size w w':=by
 have HR:Hid (cP n=(n.sort==0&&fB n.many&&bJ n.peer&&oB n)):=aa (by rcases l with h|h|h<;>simp[cP,h]);obtain⟨b,J⟩:∃b,oB n=b:=⟨_,rfl⟩;obtain⟨c,R⟩:∃c,bJ n.peer=c:=⟨_,rfl⟩;have T:=aa J;have C:Hid (oB ⟨n.op,n.name,n.peer,n.many,0⟩=b):=aa J;have P:=aa R;have U:=aa ok;have HT:=aa ok.2;clear J R ok l;unfold Nd.val;cases b;all_goals cases c
 all_goals
  go_enter Tryz.func138,Tryz.ntmps138;go_wp2_with(first|(go_at_call 160;refine(yF ⟨n.op,n.name,n.peer,n.many,0⟩ _ (a6 U)).mono ?_;rintro e w'⟨rfl,j⟩;rw[C.out];have I:=aa j;clear j)|(go_at_call_of 159 n.peer;refine(lG n.peer _ (a6 HT)).mono ?_;rintro e w'⟨rfl,rfl⟩;rw[a6 P]));all_goals
   go_ret;refine⟨aF ?_,?_⟩;·rw[a6 HR,a6 T,a6 P];simp[fB, *];try omega
   ·first|exact(aC _ _).trans (I.out.mono (aC _ _).size)|exact aC _ _
theorem nE(n:Nd)(w:World)(ok:n.ok):Calls Tryz.prog 161 #[n.val] w fun e w'=>e=.returned (.bool (cI n))∧Below w.heap.size w w':=by have C:=aa (show cI n=(n.op==4&&n.peer.toList==[]&&n.many==0&&bJ n.name&&jF n.sort)from rfl);obtain⟨b,l⟩:∃b,bJ n.name=b:=⟨_,rfl⟩;have j:=aa l;have I:=aa ok.1;clear l ok;unfold Nd.val;cases b;all_goals go_enter Tryz.func161,Tryz.ntmps161;go_wp2_with(first|(go_at_call 159;refine(lG n.name _ (a6 I)).mono ?_;rintro e w'⟨rfl,rfl⟩;rw[a6 j])|(go_at_call 92;refine(zJ n.sort _).mono ?_;rintro e w'⟨rfl,rfl⟩));all_goals go_ret;refine⟨aF ?_,aC _ _⟩;rw[a6 C,a6 j];simp[*]
theorem zD(j:Bool)(l:Nat)(n:Nd)(w:World)(ok:n.ok)(hx:w.cell? ⟨l,1,none⟩=some (.bool j)):Calls Tryz.prog 153 #[.pointer (some ⟨l,0,none⟩),n.val] w fun e w'=>e=.returned (.bool (aQ j n))∧Below w.heap.size w w':=by
 have U:=aa (show aQ j n=(bJ n.peer&&fB n.many&&n.sort==0&&(if j then n.name.toList==[]&&(n.op==5||n.op==6)else n.op==3&&bJ n.name&&!(n.name.toList==n.peer.toList)))from rfl);obtain⟨b,J⟩:∃b,bJ n.name=b:=⟨_,rfl⟩;obtain⟨c,P⟩:∃c,bJ n.peer=c:=⟨_,rfl⟩;obtain⟨d,hd⟩:∃d,(decide (1≤n.many)&&decide (n.many≤4))=d:=⟨_,rfl⟩;have C:=aa J;have I:=aa P;have R:=aa hd;have T:=aa (show fB n.many=d from hd);have HS:=aa ok.1;have HT:=aa ok.2;have ab:l<w.heap.size:=World.block_lt_of_cell? w _ hx;clear J P hd ok;unfold Nd.val;cases b;all_goals cases c
 all_goals cases d
 all_goals cases j
 all_goals go_enter Tryz.func153,Tryz.ntmps153;go_wp2_with(first|(go_at_call_of 152 n.name;refine(iq n.name _ (a6 HS)).mono ?_;rintro e w'⟨rfl,rfl⟩;rw[a6 C])|(go_at_call_of 152 n.peer;refine(iq n.peer _ (a6 HT)).mono ?_;rintro e w'⟨rfl,rfl⟩;rw[a6 I])|(go_at_call 59;refine(KD _ _ _ _).mono ?_;rintro e w'⟨rfl,rfl⟩;rw[a6 R]));all_goals go_ret;refine⟨aF ?_,aC _ _⟩;rw[a6 U,a6 C,a6 I,a6 T];simp[*];try simp_all
def bw(w:World)(b o:Nat)(n:Nd):Prop:=w.cell? ⟨b,o,none⟩=some (.int .i64 n.op)∧w.cell? ⟨b,o+1,none⟩=some (.string n.name)∧w.cell? ⟨b,o+2,none⟩=some (.string n.peer)∧w.cell? ⟨b,o+3,none⟩=some (.int .i64 n.many)∧w.cell? ⟨b,o+4,none⟩=some (.int .i64 n.sort)
def bO(w:World)(b:Nat):Nat→List Nd→Prop|_,[]=>True|o,n::l=>bw w b o n∧bO w b (o+5) l
theorem bw.carry{w w':World}{b o:Nat}{n:Nd}(h:bw w b o n){B:Nat}(j:b<B)(l:Below B w w'):bw w' b o n:=by obtain⟨C,I,J,P,R⟩:=h;exact⟨(l.cell (p:=⟨b,_,none⟩) j).trans C,(l.cell (p:=⟨b,_,none⟩) j).trans I,(l.cell (p:=⟨b,_,none⟩) j).trans J,(l.cell (p:=⟨b,_,none⟩) j).trans P,(l.cell (p:=⟨b,_,none⟩) j).trans R⟩
theorem bw.lt{w:World}{b o:Nat}{n:Nd}(h:bw w b o n):b<w.heap.size:=World.block_lt_of_cell? w _ h.1
theorem bO.carry{w w':World}{b B:Nat}(j:b<B)(C:Below B w w'):∀{l:List Nd}{o:Nat},bO w b o l→bO w' b o l|[],_,_=>trivial|_::_,_,h=>⟨h.1.carry j C,bO.carry j C h.2⟩
theorem bO.lt{w:World}{b o:Nat}{n:Nd}{l:List Nd}(h:bO w b o (n::l)):b<w.heap.size:=h.1.lt
theorem bO.get{w:World}{b:Nat}:∀{l:List Nd}{o:Nat},bO w b o l→∀i(h:i<l.length),bw w b (o+i*5) l[i]|_::_,_,h,0,_=>by simpa using h.1|_::l,o,h,i+1,hi=>by have:=h.2.get i (by simpa using hi);rw[show o+5+i*5=o+(i+1)*5 from by omega]at this;simpa using this
theorem bO.drop{w:World}{b:Nat}:∀{l:List Nd}{o:Nat},bO w b o l→∀i,bO w b (o+i*5) (l.drop i)|_,_,h,0=>by simpa using h|[],_,_,i+1=>by simp[bO]|_::l,o,h,i+1=>by have:=h.2.drop i;rw[show o+5+i*5=o+(i+1)*5 from by omega]at this;simpa using this
def bR(w:World)(B:Nat)(v:Value)(ns:List Nd):Prop:=∃j cap,v=.slice j ns.length cap∧ns.length≤cap∧(cap≤9223372036854775807∧ns.length≤4294967296)∧(ns≠[]→∃b o,j=some ⟨b,o,none⟩∧b<B∧bO w b o ns)
theorem bR.carry{w w':World}{B:Nat}{v:Value}{ns:List Nd}(h:bR w B v ns)(T:Below B w w'):bR w' B v ns:=by obtain⟨C,cap,I,J,P,R⟩:=h;refine⟨C,cap,I,J,P,fun l=>?_⟩;obtain⟨b,o,e,j,U⟩:=R l;exact⟨b,o,e,j,U.carry j T⟩
def aT(w:World):Value→List Nd→Prop|p,[]=>p=.pointer none|p,n::st=>∃b q,p=.pointer (some ⟨b,0,none⟩)∧bw w b 0 n∧w.cell? ⟨b,5,none⟩=some (.int .i64 (st.length+1:Nat))∧w.cell? ⟨b,6,none⟩=some q∧aT w q st
theorem aT.carry{w w':World}(j:Below w.heap.size w w'):∀{st:List Nd}{p:Value},aT w p st→aT w' p st|[],_,h=>h|_::_,_,⟨b,q,e,l,C,I,h⟩=>⟨b,q,e,l.carry l.lt j,(j.cell (p:=⟨b,_,none⟩) l.lt).trans C,(j.cell (p:=⟨b,_,none⟩) l.lt).trans I,aT.carry j h⟩
theorem aT.shape{w:World}{st:List Nd}{p:Value}(h:aT w p st):∃u,p=.pointer u:=by cases st with|nil=>exact⟨_,h⟩|cons=>obtain⟨b,q,e,_⟩:=h;exact⟨_,e⟩
def gX(st:List Nd):Bool:=st.length==10
def bG(st:List Nd)(name:ByteArray):Bool:=st.any fun n=>n.op==2&&n.name.toList==name.toList
def dH(j:Bool):List Nd→ByteArray→Bool|[],_=>false|n::st,name=>if n.op==2 then(if n.name.toList==name.toList then j else dH j st name)else dH true st name
theorem fV(st:List Nd)(p:Value)(w:World)(j:aT w p st):Calls Tryz.prog 136 #[p] w fun e w'=>e=.returned (.bool (gX st))∧w'=w:=by
 cases st with
  |nil=>cases j;go_enter Tryz.func136,Tryz.ntmps136;go_wp2_with fail;go_ret;exact⟨aF rfl,rfl⟩|cons n st=>
   obtain⟨b,q,rfl,C,I,l,h⟩:=j;clear C l h;go_enter Tryz.func136,Tryz.ntmps136;go_wp2_with fail;go_ret;refine⟨aF ?_,rfl⟩;rw[gX,List.length_cons];cases h:((st.length:Int)+1==10);·rw[beq_eq_false_iff_ne]at h⊢;omega
   ·rw[beq_iff_eq]at h⊢;omega
theorem jV(st:List Nd)(p:Value)(n:Nd)(w:World)(j:aT w p st)(l:st.length<1000):Calls Tryz.prog 137 #[p,n.val] w fun e w'=>∃q,e=.returned q∧aT w' q (n::st)∧Below w.heap.size w w':=by
 have I:=aa j;have R:=aa l;cases st with
  |nil=>cases j;unfold Nd.val;go_enter Tryz.func137,Tryz.ntmps137;go_wp2_with fail;go_ret;refine⟨_,rfl,⟨_,_,rfl,⟨?_,?_,?_,?_,?_⟩,?_,?_,rfl⟩,(aC _ _).trans (((aC _ _)).mono (by simp))⟩;all_goals simp|cons n' st=>
   obtain⟨b,q,rfl,C,T,J,h⟩:=j;have P:=C.lt;clear C J h;unfold Nd.val;go_enter Tryz.func137,Tryz.ntmps137;have U:wrap64 ((st.length:Int)+1+1)=(st.length:Int)+1+1:=by simp only[List.length_cons]at l;simp only[wrap64];omega
   go_wp2_with fail;go_region;go_wp2_with fail;go_ret;refine⟨_,rfl,⟨w.heap.size+1,.pointer (some ⟨b,0,none⟩),rfl,⟨?_,?_,?_,?_,?_⟩,?_,?_,?_⟩,((aC _ _).trans (((aC _ _)).mono (by simp))).drew⟩;case refine_8=>exact aT.carry ((aC _ _).trans (((aC _ _)).mono (by simp))).drew I.out
   all_goals simp
   all_goals omega
theorem kA(st:List Nd)(p:Value)(name:ByteArray)(w:World)(l:aT w p st):Calls Tryz.prog 135 #[p,.string name] w fun e w'=>e=.returned (.bool (bG st name))∧w'=w:=by
 obtain⟨u,rfl⟩:=l.shape;have R:=aa l;clear l;go_enter Tryz.func135,Tryz.ntmps135;go_wp2_with fail;go_loopg[0]st.length(fun k p wr=>wr=w∧∃j,j.length=k∧aT w p j∧bG j name=bG st name);case atStart=>exact⟨rfl,st,rfl,R.out,rfl⟩
 case round=>
  obtain⟨rfl,j,J,l,I⟩:=hrel;have P:=aa J;have C:=aa I;clear J I;cases j with
   |nil=>cases l;go_wp2_with fail;go_ret;exact⟨aF C.out.symm,rfl⟩|cons n j=>
    obtain⟨b,q,rfl,⟨h0,h1,U,h3,h4⟩,h5,h6,h⟩:=l;obtain⟨u',rfl⟩:=h.shape;have T:=aa h;clear h U h3 h4 h5;go_wp2_with fail;all_goals
     first
      |(go_ret;refine⟨aF ?_,rfl⟩;rw[←C.out];simp_all[bG])|
       (
        go_roundg j.length;case measure=>have:=P.out;simp at this;omega
        case rel=>exact⟨rfl,j,rfl,T.out,by rw[←C.out];simp_all[bG]⟩)
theorem Ey(st:List Nd)(p:Value)(name:ByteArray)(w:World)(l:aT w p st):Calls Tryz.prog 133 #[p,.string name] w fun e w'=>e=.returned (.bool (dH false st name))∧w'=w:=by
 obtain⟨u,rfl⟩:=l.shape;have R:=aa l;clear l;go_enter Tryz.func133,Tryz.ntmps133;go_wp2_with fail;go_loopg[0,5]st.length(fun k p said wr=>wr=w∧∃j b,j.length=k∧said=.bool b∧aT w p j∧dH b j name=dH false st name);case atStart=>exact⟨rfl,st,false,rfl,rfl,R.out,rfl⟩
 case round=>
  obtain⟨rfl,j,b0,J,rfl,l,I⟩:=hrel;have P:=aa J;have C:=aa I;clear J I;cases j with
   |nil=>cases l;go_wp2_with fail;go_ret;exact⟨aF C.out.symm,rfl⟩|cons n j=>
    obtain⟨b,q,rfl,⟨h0,h1,U,h3,h4⟩,h5,h6,h⟩:=l;obtain⟨u',rfl⟩:=h.shape;have T:=aa h;clear h U h3 h4 h5;go_wp2_with fail;all_goals
     first
      |(go_ret;refine⟨aF ?_,rfl⟩;rw[←C.out];simp_all[dH])|
       (
        go_roundg j.length;case measure=>have:=P.out;simp at this;omega
        case rel=>exact⟨rfl,j,_,rfl,rfl,T.out,by rw[←C.out];simp_all[dH]⟩)
def cH(ls:List ByteArray)(t:ByteArray):Bool:=ls.any fun s=>s.toList==t.toList
def bB(w:World)(v:Value)(ls:List ByteArray):Prop:=∃j cap,v=.slice j ls.length cap∧ls.length≤cap∧ls.length≤4294967296∧(ls≠[]→∃b o,j=some ⟨b,o,none⟩∧∀i(h:i<ls.length),w.cell? ⟨b,o+i,none⟩=some (.string ls[i]))
theorem bB.carry{w w':World}{v:Value}{ls:List ByteArray}(h:bB w v ls)(T:Below w.heap.size w w'):bB w' v ls:=by obtain⟨C,cap,I,J,P,R⟩:=h;refine⟨C,cap,I,J,P,fun j=>?_⟩;obtain⟨b,o,e,l⟩:=R j;refine⟨b,o,e,fun i hi=>?_⟩;exact(T.cell (p:=⟨b,_,none⟩) (World.block_lt_of_cell? w _ (l i hi))).trans (l i hi)
theorem xh{ls:List ByteArray}{t:ByteArray}{k:Nat}(l:k<ls.length)(h:cH (ls.take k) t=false)(j:(ls[k].toList==t.toList)=false):cH (ls.take (k+1)) t=false:=by rw[cH,List.take_succ_eq_append_getElem l,List.any_append];have:(ls.take k).any (fun s=>s.toList==t.toList)=false:=h;simp[this,j]at*
theorem AE{ls:List ByteArray}{t:ByteArray}{k:Nat}(l:k<ls.length)(j:(ls[k].toList==t.toList)=true):cH ls t=true:=by rw[cH,List.any_eq_true];exact⟨ls[k],List.getElem_mem l,j⟩
theorem bS{w:World}{base e:Nat}{v:Value}{ls:List ByteArray}(h:w.ownsRow base e 1 v ls.length (ls.map Value.string))(J:ls.length≤4294967296):bB w v ls:=by
 obtain⟨_,hv⟩:=h;rcases hv with⟨rfl,P⟩|⟨g,cap,j,rfl,hg,T,U,I,ab,l⟩;·have:ls=[]:=List.length_eq_zero_iff.1 P;subst this;exact⟨none,0,rfl,Nat.le_refl _,J,fun h=>absurd rfl h⟩
 ·refine⟨_,cap,rfl,U,J,fun _=>⟨g,0,rfl,fun i hi=>?_⟩⟩;have R:j.toList[i]?=some (.string ls[i]):=by
   have C:(j.toList.take (ls.length*1))[i]?=(ls.map Value.string)[i]?:=by rw[l]
   rw[List.getElem?_take,if_pos (by omega)]at C;rw[C];simp[hi]
  have C:j[i]?=some (.string ls[i]):=by rw[←R];simp
  simp only[World.cell?,T];simpa using C
theorem jh{w w':World}{base e size:Nat}{v:Value}{n:Nat}{J:List Value}(h:w.ownsRow base e size v n J)(R:Below w.heap.size w w'):w'.ownsRow base e size v n J:=by
 obtain⟨P,I⟩:=h;refine⟨P,?_⟩;rcases I with I|⟨g,cap,j,rfl,T,l,r⟩;·exact .inl I
 ·have C:g<w.heap.size:=by
   rcases Nat.lt_or_ge g w.heap.size with h|h;·exact h
   ·rw[Array.getElem?_eq_none h]at l;exact absurd l (by simp)
  exact .inr ⟨g,cap,j,rfl,T,by rw[R.block g C];exact l,r⟩
theorem fM{w:World}{base e size:Nat}{v:Value}{n:Nat}{J:List Value}(h:w.ownsRow base e size v n J):∀k,v.ownBlock=some k→base≤k:=by
 obtain⟨_,I⟩:=h;rcases I with⟨rfl,_⟩|⟨g,cap,l,rfl,C,r⟩;·intro k j;cases j
 ·intro k j;cases j;exact C
theorem gp(ls:List ByteArray)(t:ByteArray)(v:Value)(w:World)(hv:bB w v ls):Calls Tryz.prog 151 #[v,.string t] w fun e w'=>e=.returned (.bool (cH ls t))∧w'=w:=by
 obtain⟨ao,cap,rfl,hc,hm,U⟩:=hv;have HR:=aa U;clear U;go_enter Tryz.func151,Tryz.ntmps151;go_wp2_with fail;go_loop[5](fun i=>∃k:Nat,k≤ls.length∧i=.int .i64 k∧cH (ls.take k) t=false)(fun i=>ls.length-(intOf i).toNat);case atStart=>exact⟨0,Nat.zero_le _,rfl,rfl⟩
 case round=>
  obtain⟨k,hk,rfl,C⟩:=hrel;have R:=aa C;clear C;by_cases l:k<ls.length;·
   obtain⟨b,o,rfl,j⟩:=HR.out (by intro h;simp[h]at l);have J:=j k l;obtain⟨s,P⟩:∃s,s=ls[k]:=⟨_,rfl⟩;rw[←P]at J;have I:=aa P;clear j P;cases heq:(s.toList==t.toList);all_goals have T:=aa heq
   ·go_wp2_with fail;go_round;case rel=>exact⟨k+1,by omega,by go_num,xh l R.out (by rw[←I.out];exact T.out)⟩
    case measure=>simp[intOf];omega
   ·go_wp2_with fail;go_ret;exact⟨aF (AE l (by rw[←I.out];exact T.out)),rfl⟩
  ·go_wp2_with fail;go_ret;refine⟨aF ?_,rfl⟩;have:=R.out;rwa[List.take_of_length_le (by omega)]at this
theorem G7(ls:List ByteArray)(t:ByteArray)(v:Value)(w:World)(hv:bB w v ls):Calls Tryz.prog 162 #[v,.string t] w fun e w'=>∃j:Int,e=.returned (.int .i64 j)∧decide (0≤j)=cH ls t∧w'=w:=by
 obtain⟨ao,cap,rfl,hc,hm,hr⟩:=hv;have HR:=aa hr;clear hr;go_enter Tryz.func162,Tryz.ntmps162;go_wp2_with fail;go_loop[8](fun i=>∃k:Nat,k≤ls.length∧i=.int .i64 k∧cH (ls.take k) t=false)(fun i=>ls.length-(intOf i).toNat);case atStart=>exact⟨0,Nat.zero_le _,rfl,rfl⟩
 case round=>
  obtain⟨k,hk,rfl,I⟩:=hrel;have T:=aa I;clear I;by_cases C:k<ls.length;·
   obtain⟨b,o,rfl,l⟩:=HR.out (by intro h;simp[h]at C);have P:=l k C;obtain⟨s,R⟩:∃s,s=ls[k]:=⟨_,rfl⟩;rw[←R]at P;have J:=aa R;clear l R;cases heq:(t.toList==s.toList);all_goals have U:=aa heq
   ·go_wp2_with fail;go_round;case rel=>exact⟨k+1,by omega,by go_num,xh C T.out (by rw[←J.out,Bool.beq_comm];exact U.out)⟩
    case measure=>simp[intOf];omega
   ·go_wp2_with fail;go_ret;exact⟨_,rfl,by rw[AE C (by rw[←J.out,Bool.beq_comm];exact U.out)];simp,rfl⟩
  ·go_wp2_with fail;go_ret;refine⟨_,rfl,?_,rfl⟩;have:=T.out;rw[List.take_of_length_le (by omega)]at this;rw[this];rfl
theorem lu(ls:List ByteArray)(t:ByteArray)(v:Value)(w:World)(C:bB w v ls):Calls Tryz.prog 141 #[v,.string t] w fun e w'=>e=.returned (.bool (cH ls t))∧w'=w:=by have J:=aa C;obtain⟨U,cap,rfl,P,R,T⟩:=C;clear T P R;go_enter Tryz.func141,Tryz.ntmps141;go_wp2_with(go_at_call 162;refine(G7 ls t _ _ J.out).mono ?_;rintro e w'⟨j,rfl,l,rfl⟩;have I:=aa l;clear l);go_ret;exact⟨aF I.out.symm,rfl⟩
def Nd.cells(n:Nd):List Value:=[.int .i64 n.op,.string n.name,.string n.peer,.int .i64 n.many,.int .i64 n.sort]
theorem Nd.aR(n:Nd):n.cells.length=5:=rfl
theorem Nd.cells_one(n:Nd):∀u∈n.cells,u.oneCell'=true:=by intro u hu;simp[Nd.cells]at hu;rcases hu with rfl|rfl|rfl|rfl|rfl<;>rfl
theorem mR(l:List Nd):∀u∈l.flatMap Nd.cells,u.oneCell'=true:=fun u hu=>by obtain⟨x,_,j⟩:=List.mem_flatMap.1 hu;exact Nd.cells_one x u j
def bV(w:World)(base:Nat)(v:Value)(l:List Nd):Prop:=w.ownsRow base 108 5 v l.length (l.flatMap Nd.cells)
theorem bV.below{w w':World}{base:Nat}{v:Value}{l:List Nd}(h:bV w base v l)(j:Below w.heap.size w w'):bV w' base v l:=aL h j
theorem bV.snoc{w:World}{base:Nat}{v:Value}{l r:List Nd}(h:w.ownsRow base 108 5 v (l.length+r.length) (l.flatMap Nd.cells++r.flatMap Nd.cells)):bV w base v (l++r):=by unfold bV;rw[List.length_append,List.flatMap_append];exact h
theorem bV.at_{w:World}{base:Nat}{v:Value}{l:List Nd}(h:bV w base v l)(J:0<l.length):∃g c,v=.slice (some ⟨g,0,none⟩) l.length c∧g<w.heap.size∧base≤g:=by
 rcases h.2 with⟨_,R⟩|⟨g,cap,C,P,I,j,_⟩;·omega
 ·exact⟨g,cap,P,(Array.getElem?_eq_some_iff.1 j).1,I⟩
theorem bV.cell{w:World}{base g c:Nat}{l:List Nd}(h:bV w base (.slice (some ⟨g,0,none⟩) l.length c) l)(j:Nat)(u:Value)(C:(l.flatMap Nd.cells)[j]?=some u):w.cell? (Addr.add ⟨g,0,none⟩ j)=some u:=by
 have e:Addr.add ⟨g,0,none⟩ j=⟨g,j,none⟩:=by unfold Addr.add;split<;>simp_all
 rw[e];exact bF h rfl j u C
theorem gC(w:World)(n:Nd)(base b:Nat)(l:b=w.heap.size)(j:base≤w.heap.size):bV (w.alloc (.cells #[.int .i64 n.op,.string n.name,.string n.peer,.int .i64 n.many,.int .i64 n.sort] 108)) base (.slice (some ⟨b,0,none⟩) 1 1) [n]:=by subst l;have:=World.ownsRow_lit (e:=108) (size:=5) (base:=base) w #[.int .i64 n.op,.string n.name,.string n.peer,.int .i64 n.many,.int .i64 n.sort] 1 j (by simp[maxLen]) rfl;unfold bV;simpa[Nd.cells]using this
theorem Tryz.mi:(Tryz.prog.info? 108).map (fun i=>(i.zero,i.size,i.bytes))=some (some (.agg #[.int .i64 0,.string ByteArray.empty,.string ByteArray.empty,.int .i64 0,.int .i64 0]),5,56):=by kernel_rfl
end Go.Proofs.YtlbcnmcfljaijaaGreat
