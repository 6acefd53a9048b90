import Derived.Test.YtdiiiijkhpdcbaaGreatDoorProg
import Derived.Test.YtdiiiijkhpdcbaaGreatDoorRD00
import Derived.Test.YtdiiiijkhpdcbaaGreatDoorRD04
import Derived.Deep.RegionWith
import Derived.Deep.LoopGhost
import Derived.Laws.OwnMore
import Derived.Deep.RegionLaw
import Derived.Deep.QuietTactic
import Derived.Test.YtdiiiijkhpdcbaaGreatDoorRD09
namespace Go.Proofs.YtdiiiijkhpdcbaaGreatDoor
open Go.RowKit
set_option linter.unusedSimpArgs false
set_option linter.unusedVariables false
set_option maxHeartbeats 1000000
set_option maxRecDepth 100000
structure Nd where
 op:Int
 name:ByteArray
 peer:ByteArray
 many:Int
 sort:Int
def Nd.val(n:Nd):Value:=.agg #[.int .i64 n.op,.string n.name,.string n.peer,.int .i64 n.many,.int .i64 n.sort]
def Nd.ok(n:Nd):Prop:=n.name.size≤maxLen∧n.peer.size≤maxLen
def db(t:ByteArray):Bool:=b9 t&&(!(t.toList==[101,110,100])&&!(t.toList==[114,101,99]))
def kO(n:Int):Bool:=decide (0≤n)&&decide (n≤2)
def jg(n:Int):Bool:=decide (1≤n)&&decide (n≤4)
def iD(n:Nd):Bool:=n.op==2&&n.peer.toList==[]&&n.many==0&&n.sort==0&&db n.name
def mL(n:Nd):Bool:=n.op==1&&n.peer.toList==[]&&n.many==0&&n.sort==0
def gX(n:Nd):Bool:=n.op==0&&n.name.toList==[]&&n.peer.toList==[]&&n.many==0&&n.sort==0
def mJ(n:Nd):Bool:=if n.op==3 then db n.name&&!(n.name.toList==n.peer.toList)else n.name.toList==[]
def ei(n:Nd):Bool:=(n.op==3||n.op==5||n.op==6)&&n.sort==0&&jg n.many&&db n.peer&&mJ n
def bA(part:Bool)(n:Nd):Bool:=db n.peer&&jg n.many&&n.sort==0&&(if part then n.name.toList==[]&&(n.op==5||n.op==6)else n.op==3&&db n.name&&!(n.name.toList==n.peer.toList))
def eD(n:Nd):Bool:=n.op==4&&n.peer.toList==[]&&n.many==0&&db n.name&&kO n.sort
theorem aE(w:World)(o:Obj):Below w.heap.size w (w.alloc o):=(Below.refl _ _).alloc (Nat.le_refl _) o
theorem kJ(t:ByteArray)(w:World)(C:t.size≤maxLen):Calls Tryz.prog 294 #[.string t] w fun e w'=>e=.returned (.bool (db t))∧w'=w:=by obtain⟨b,l⟩:∃b,b9 t=b:=⟨_,rfl⟩;have j:=aa l;have I:=aa C;clear l C;cases b;all_goals go_enter Tryz.func294,Tryz.ntmps294;go_wp2_with(go_at_call 207;refine(lF t _ (bt I)).mono ?_;rintro e w'⟨rfl,rfl⟩;rw[bt j]);all_goals go_ret;refine⟨aC ?_,rfl⟩;rw[db,bt j];simp[*]
theorem il(t:ByteArray)(w:World)(C:t.size≤maxLen):Calls Tryz.prog 259 #[.string t] w fun e w'=>e=.returned (.bool (db t))∧w'=w:=by obtain⟨b,l⟩:∃b,b9 t=b:=⟨_,rfl⟩;have j:=aa l;have I:=aa C;clear l C;cases b;all_goals go_enter Tryz.func259,Tryz.ntmps259;go_wp2_with(go_at_call 177;refine(tX t _ (bt I)).mono ?_;rintro e w'⟨rfl,rfl⟩;rw[bt j]);all_goals go_ret;refine⟨aC ?_,rfl⟩;rw[db,bt j];simp[*]
theorem IG(n j hi:Int)(w:World):Calls Tryz.prog 105 #[.int .i64 n,.int .i64 j,.int .i64 hi] w fun e w'=>e=.returned (.bool (decide (j≤n)&&decide (n≤hi)))∧w'=w:=by by_cases h:j≤n;all_goals go_enter Tryz.func105,Tryz.ntmps105;go_wp2_with fail;go_ret;refine⟨aC ?_,rfl⟩;simp[*];try omega
theorem uQ(n:Int)(w:World):Calls Tryz.prog 178 #[.int .i64 n] w fun e w'=>e=.returned (.bool (kO n))∧w'=w:=by go_enter Tryz.func178,Tryz.ntmps178;go_wp2_with(go_at_call 105;refine(IG _ _ _ _).mono ?_;rintro e w'⟨rfl,rfl⟩);go_ret;exact⟨aC rfl,rfl⟩
theorem yr(n:Int)(w:World):Calls Tryz.prog 211 #[.int .i64 n] w fun e w'=>e=.returned (.bool (kO n))∧w'=w:=by by_cases h:0≤n;all_goals go_enter Tryz.func211,Tryz.ntmps211;go_wp2_with fail;go_ret;exact⟨aC (by simp[kO, *];try omega),rfl⟩
theorem gz(n:Nd)(w:World)(l:n.ok):Calls Tryz.prog 265 #[n.val] w fun e w'=>e=.returned (.bool (iD n))∧Below w.heap.size w w':=by have j:iD n=(n.op==2&&n.peer.toList==[]&&n.many==0&&n.sort==0&&db n.name):=rfl;have C:=aa j;have I:=aa l.1;clear j l;unfold Nd.val;go_enter Tryz.func265,Tryz.ntmps265;go_wp2_with(go_at_call 294;refine(kJ n.name _ (bt I)).mono ?_;rintro e w'⟨rfl,rfl⟩);all_goals go_ret;refine⟨aC ?_,aE _ _⟩;rw[bt C];simp[*]
theorem xh(n:Nd)(w:World)(C:n.ok):Calls Tryz.prog 295 #[n.val] w fun e w'=>e=.returned (.bool (mJ n))∧Below w.heap.size w w':=by
 have J:=aa (show mJ n=(if n.op==3 then db n.name&&!(n.name.toList==n.peer.toList)else n.name.toList==[])from rfl);obtain⟨b,l⟩:∃b,db n.name=b:=⟨_,rfl⟩;have j:=aa l;have P:=aa C.1;obtain⟨c,R⟩:∃c,(n.op==3)=c:=⟨_,rfl⟩;have I:=aa R;clear l C;unfold Nd.val;cases b;all_goals cases c
 all_goals go_enter Tryz.func295,Tryz.ntmps295;go_wp2_with(go_at_call 294;refine(kJ n.name _ (bt P)).mono ?_;rintro e w'⟨rfl,rfl⟩;rw[bt j]);all_goals go_ret;refine⟨aC ?_,aE _ _⟩;rw[bt J,bt j,bt I];simp[*]
theorem su(n:Nd)(w:World)(P:n.ok)(l:n.op=3∨n.op=5∨n.op=6):Calls Tryz.prog 269 #[n.val] w fun e w'=>e=.returned (.bool (ei n))∧Below w.heap.size w w':=by
 have HR:Hid (ei n=(n.sort==0&&jg n.many&&db n.peer&&mJ n)):=aa (by rcases l with h|h|h<;>simp[ei,h]);obtain⟨b,J⟩:∃b,mJ n=b:=⟨_,rfl⟩;obtain⟨c,T⟩:∃c,db n.peer=c:=⟨_,rfl⟩;have U:=aa J;have C:Hid (mJ ⟨n.op,n.name,n.peer,n.many,0⟩=b):=aa J;have R:=aa T;have HO:=aa P;have HT:=aa P.2;clear J T P l;unfold Nd.val;cases b;all_goals cases c
 all_goals
  go_enter Tryz.func269,Tryz.ntmps269;go_wp2_with(first|(go_at_call 295;refine(xh ⟨n.op,n.name,n.peer,n.many,0⟩ _ (bt HO)).mono ?_;rintro e w'⟨rfl,j⟩;rw[C.out];have I:=aa j;clear j)|(go_at_call_of 294 n.peer;refine(kJ n.peer _ (bt HT)).mono ?_;rintro e w'⟨rfl,rfl⟩;rw[bt R]));all_goals
   go_ret;refine⟨aC ?_,?_⟩;·rw[bt HR,bt U,bt R];simp[jg, *];try omega
   ·first|exact(aE _ _).trans (I.out.mono (aE _ _).size)|exact aE _ _
theorem mh(n:Nd)(w:World)(C:n.ok):Calls Tryz.prog 296 #[n.val] w fun e w'=>e=.returned (.bool (eD n))∧Below w.heap.size w w':=by have I:=aa (show eD n=(n.op==4&&n.peer.toList==[]&&n.many==0&&db n.name&&kO n.sort)from rfl);obtain⟨b,l⟩:∃b,db n.name=b:=⟨_,rfl⟩;have j:=aa l;have J:=aa C.1;clear l C;unfold Nd.val;cases b;all_goals go_enter Tryz.func296,Tryz.ntmps296;go_wp2_with(first|(go_at_call 294;refine(kJ n.name _ (bt J)).mono ?_;rintro e w'⟨rfl,rfl⟩;rw[bt j])|(go_at_call 211;refine(yr n.sort _).mono ?_;rintro e w'⟨rfl,rfl⟩));all_goals go_ret;refine⟨aC ?_,aE _ _⟩;rw[bt I,bt j];simp[*]
theorem yj(part:Bool)(j:Nat)(n:Nd)(w:World)(l:n.ok)(hx:w.cell? ⟨j,1,none⟩=some (.bool part)):Calls Tryz.prog 260 #[.pointer (some ⟨j,0,none⟩),n.val] w fun e w'=>e=.returned (.bool (bA part n))∧Below w.heap.size w w':=by
 have U:=aa (show bA part n=(db n.peer&&jg n.many&&n.sort==0&&(if part then n.name.toList==[]&&(n.op==5||n.op==6)else n.op==3&&db n.name&&!(n.name.toList==n.peer.toList)))from rfl);obtain⟨b,J⟩:∃b,db n.name=b:=⟨_,rfl⟩;obtain⟨c,P⟩:∃c,db n.peer=c:=⟨_,rfl⟩;obtain⟨d,hd⟩:∃d,(decide (1≤n.many)&&decide (n.many≤4))=d:=⟨_,rfl⟩;have C:=aa J;have I:=aa P;have R:=aa hd;have T:=aa (show jg n.many=d from hd);have HS:=aa l.1;have HT:=aa l.2;have ab:j<w.heap.size:=World.block_lt_of_cell? w _ hx;clear J P hd l;unfold Nd.val;cases b;all_goals cases c
 all_goals cases d
 all_goals cases part
 all_goals go_enter Tryz.func260,Tryz.ntmps260;go_wp2_with(first|(go_at_call_of 259 n.name;refine(il n.name _ (bt HS)).mono ?_;rintro e w'⟨rfl,rfl⟩;rw[bt C])|(go_at_call_of 259 n.peer;refine(il n.peer _ (bt HT)).mono ?_;rintro e w'⟨rfl,rfl⟩;rw[bt I])|(go_at_call 105;refine(IG _ _ _ _).mono ?_;rintro e w'⟨rfl,rfl⟩;rw[bt R]));all_goals go_ret;refine⟨aC ?_,aE _ _⟩;rw[bt U,bt C,bt I,bt T];simp[*];try simp_all
def cJ(w:World)(b o:Nat)(n:Nd):Prop:=w.cell? ⟨b,o,none⟩=some (.int .i64 n.op)∧w.cell? ⟨b,o+1,none⟩=some (.string n.name)∧w.cell? ⟨b,o+2,none⟩=some (.string n.peer)∧w.cell? ⟨b,o+3,none⟩=some (.int .i64 n.many)∧w.cell? ⟨b,o+4,none⟩=some (.int .i64 n.sort)
def cO(w:World)(b:Nat):Nat→List Nd→Prop|_,[]=>True|o,n::l=>cJ w b o n∧cO w b (o+5) l
theorem cJ.carry{w w':World}{b o:Nat}{n:Nd}(h:cJ w b o n){B:Nat}(j:b<B)(l:Below B w w'):cJ w' b o n:=by obtain⟨C,I,J,P,R⟩:=h;exact⟨(l.cell (p:=⟨b,_,none⟩) j).trans C,(l.cell (p:=⟨b,_,none⟩) j).trans I,(l.cell (p:=⟨b,_,none⟩) j).trans J,(l.cell (p:=⟨b,_,none⟩) j).trans P,(l.cell (p:=⟨b,_,none⟩) j).trans R⟩
theorem cJ.lt{w:World}{b o:Nat}{n:Nd}(h:cJ w b o n):b<w.heap.size:=World.block_lt_of_cell? w _ h.1
theorem cO.carry{w w':World}{b B:Nat}(j:b<B)(C:Below B w w'):∀{l:List Nd}{o:Nat},cO w b o l→cO w' b o l|[],_,_=>trivial|_::_,_,h=>⟨h.1.carry j C,cO.carry j C h.2⟩
theorem cO.lt{w:World}{b o:Nat}{n:Nd}{l:List Nd}(h:cO w b o (n::l)):b<w.heap.size:=h.1.lt
theorem cO.get{w:World}{b:Nat}:∀{l:List Nd}{o:Nat},cO w b o l→∀i(h:i<l.length),cJ w b (o+i*5) l[i]|_::_,_,h,0,_=>by simpa using h.1|_::l,o,h,i+1,hi=>by have:=h.2.get i (by simpa using hi);rw[show o+5+i*5=o+(i+1)*5 from by omega]at this;simpa using this
theorem cO.drop{w:World}{b:Nat}:∀{l:List Nd}{o:Nat},cO w b o l→∀i,cO w b (o+i*5) (l.drop i)|_,_,h,0=>by simpa using h|[],_,_,i+1=>by simp[cO]|_::l,o,h,i+1=>by have:=h.2.drop i;rw[show o+5+i*5=o+(i+1)*5 from by omega]at this;simpa using this
def bF(w:World)(B:Nat)(v:Value)(ns:List Nd):Prop:=∃j cap,v=.slice j ns.length cap∧ns.length≤cap∧(cap≤9223372036854775807∧ns.length≤4294967296)∧(ns≠[]→∃b o,j=some ⟨b,o,none⟩∧b<B∧cO w b o ns)
theorem bF.carry{w w':World}{B:Nat}{v:Value}{ns:List Nd}(h:bF w B v ns)(T:Below B w w'):bF w' B v ns:=by obtain⟨C,cap,I,J,P,R⟩:=h;refine⟨C,cap,I,J,P,fun l=>?_⟩;obtain⟨b,o,e,j,U⟩:=R l;exact⟨b,o,e,j,U.carry j T⟩
def bE(w:World):Value→List Nd→Prop|p,[]=>p=.pointer none|p,n::st=>∃b q,p=.pointer (some ⟨b,0,none⟩)∧cJ w b 0 n∧w.cell? ⟨b,5,none⟩=some (.int .i64 (st.length+1:Nat))∧w.cell? ⟨b,6,none⟩=some q∧bE w q st
theorem bE.carry{w w':World}(j:Below w.heap.size w w'):∀{st:List Nd}{p:Value},bE w p st→bE w' p st|[],_,h=>h|_::_,_,⟨b,q,e,l,C,I,h⟩=>⟨b,q,e,l.carry l.lt j,(j.cell (p:=⟨b,_,none⟩) l.lt).trans C,(j.cell (p:=⟨b,_,none⟩) l.lt).trans I,bE.carry j h⟩
theorem bE.shape{w:World}{st:List Nd}{p:Value}(h:bE w p st):∃u,p=.pointer u:=by cases st with|nil=>exact⟨_,h⟩|cons=>obtain⟨b,q,e,_⟩:=h;exact⟨_,e⟩
def lV(st:List Nd):Bool:=st.length==10
def bW(st:List Nd)(name:ByteArray):Bool:=st.any fun n=>n.op==2&&n.name.toList==name.toList
def eK(j:Bool):List Nd→ByteArray→Bool|[],_=>false|n::st,name=>if n.op==2 then(if n.name.toList==name.toList then j else eK j st name)else eK true st name
theorem lq(st:List Nd)(p:Value)(w:World)(j:bE w p st):Calls Tryz.prog 267 #[p] w fun e w'=>e=.returned (.bool (lV st))∧w'=w:=by
 cases st with
  |nil=>cases j;go_enter Tryz.func267,Tryz.ntmps267;go_wp2_with fail;go_ret;exact⟨aC rfl,rfl⟩|cons n st=>
   obtain⟨b,q,rfl,C,I,l,h⟩:=j;clear C l h;go_enter Tryz.func267,Tryz.ntmps267;go_wp2_with fail;go_ret;refine⟨aC ?_,rfl⟩;rw[lV,List.length_cons];cases h:((st.length:Int)+1==10);·rw[beq_eq_false_iff_ne]at h⊢;omega
   ·rw[beq_iff_eq]at h⊢;omega
theorem qp(st:List Nd)(p:Value)(n:Nd)(w:World)(j:bE w p st)(l:st.length<1000):Calls Tryz.prog 268 #[p,n.val] w fun e w'=>∃q,e=.returned q∧bE w' q (n::st)∧Below w.heap.size w w':=by
 have I:=aa j;have R:=aa l;cases st with
  |nil=>cases j;unfold Nd.val;go_enter Tryz.func268,Tryz.ntmps268;go_wp2_with fail;go_ret;refine⟨_,rfl,⟨_,_,rfl,⟨?_,?_,?_,?_,?_⟩,?_,?_,rfl⟩,(aE _ _).trans (((aE _ _)).mono (by simp))⟩;all_goals simp|cons n' st=>
   obtain⟨b,q,rfl,C,T,J,h⟩:=j;have P:=C.lt;clear C J h;unfold Nd.val;go_enter Tryz.func268,Tryz.ntmps268;have U:wrap64 ((st.length:Int)+1+1)=(st.length:Int)+1+1:=by simp only[List.length_cons]at l;simp only[wrap64];omega
   go_wp2_with fail;go_region;go_wp2_with fail;go_ret;refine⟨_,rfl,⟨w.heap.size+1,.pointer (some ⟨b,0,none⟩),rfl,⟨?_,?_,?_,?_,?_⟩,?_,?_,?_⟩,((aE _ _).trans (((aE _ _)).mono (by simp))).drew⟩;case refine_8=>exact bE.carry ((aE _ _).trans (((aE _ _)).mono (by simp))).drew I.out
   all_goals simp
   all_goals omega
theorem j9(st:List Nd)(p:Value)(name:ByteArray)(w:World)(l:bE w p st):Calls Tryz.prog 266 #[p,.string name] w fun e w'=>e=.returned (.bool (bW st name))∧w'=w:=by
 obtain⟨u,rfl⟩:=l.shape;have R:=aa l;clear l;go_enter Tryz.func266,Tryz.ntmps266;go_wp2_with fail;go_loopg[0]st.length(fun k p wr=>wr=w∧∃j,j.length=k∧bE w p j∧bW j name=bW st name);case atStart=>exact⟨rfl,st,rfl,R.out,rfl⟩
 case round=>
  obtain⟨rfl,j,J,l,I⟩:=hrel;have P:=aa J;have C:=aa I;clear J I;cases j with
   |nil=>cases l;go_wp2_with fail;go_ret;exact⟨aC C.out.symm,rfl⟩|cons n j=>
    obtain⟨b,q,rfl,⟨h0,h1,U,h3,h4⟩,h5,h6,h⟩:=l;obtain⟨u',rfl⟩:=h.shape;have T:=aa h;clear h U h3 h4 h5;go_wp2_with fail;all_goals
     first
      |(go_ret;refine⟨aC ?_,rfl⟩;rw[←C.out];simp_all[bW])|
       (
        go_roundg j.length;case measure=>have:=P.out;simp at this;omega
        case rel=>exact⟨rfl,j,rfl,T.out,by rw[←C.out];simp_all[bW]⟩)
theorem Dh(st:List Nd)(p:Value)(name:ByteArray)(w:World)(l:bE w p st):Calls Tryz.prog 264 #[p,.string name] w fun e w'=>e=.returned (.bool (eK false st name))∧w'=w:=by
 obtain⟨u,rfl⟩:=l.shape;have R:=aa l;clear l;go_enter Tryz.func264,Tryz.ntmps264;go_wp2_with fail;go_loopg[0,5]st.length(fun k p said wr=>wr=w∧∃j b,j.length=k∧said=.bool b∧bE w p j∧eK b j name=eK false st name);case atStart=>exact⟨rfl,st,false,rfl,rfl,R.out,rfl⟩
 case round=>
  obtain⟨rfl,j,b0,J,rfl,l,I⟩:=hrel;have P:=aa J;have C:=aa I;clear J I;cases j with
   |nil=>cases l;go_wp2_with fail;go_ret;exact⟨aC C.out.symm,rfl⟩|cons n j=>
    obtain⟨b,q,rfl,⟨h0,h1,U,h3,h4⟩,h5,h6,h⟩:=l;obtain⟨u',rfl⟩:=h.shape;have T:=aa h;clear h U h3 h4 h5;go_wp2_with fail;all_goals
     first
      |(go_ret;refine⟨aC ?_,rfl⟩;rw[←C.out];simp_all[eK])|
       (
        go_roundg j.length;case measure=>have:=P.out;simp at this;omega
        case rel=>exact⟨rfl,j,_,rfl,rfl,T.out,by rw[←C.out];simp_all[eK]⟩)
def b8(ls:List ByteArray)(t:ByteArray):Bool:=ls.any fun s=>s.toList==t.toList
def bI(w:World)(v:Value)(ls:List ByteArray):Prop:=∃j cap,v=.slice j ls.length cap∧ls.length≤cap∧ls.length≤4294967296∧(ls≠[]→∃b o,j=some ⟨b,o,none⟩∧∀i(h:i<ls.length),w.cell? ⟨b,o+i,none⟩=some (.string ls[i]))
theorem bI.carry{w w':World}{v:Value}{ls:List ByteArray}(h:bI w v ls)(T:Below w.heap.size w w'):bI w' v ls:=by obtain⟨C,cap,I,J,P,R⟩:=h;refine⟨C,cap,I,J,P,fun j=>?_⟩;obtain⟨b,o,e,l⟩:=R j;refine⟨b,o,e,fun i hi=>?_⟩;exact(T.cell (p:=⟨b,_,none⟩) (World.block_lt_of_cell? w _ (l i hi))).trans (l i hi)
theorem vI{ls:List ByteArray}{t:ByteArray}{k:Nat}(l:k<ls.length)(h:b8 (ls.take k) t=false)(j:(ls[k].toList==t.toList)=false):b8 (ls.take (k+1)) t=false:=by rw[b8,List.take_succ_eq_append_getElem l,List.any_append];have:(ls.take k).any (fun s=>s.toList==t.toList)=false:=h;simp[this,j]at*
theorem zm{ls:List ByteArray}{t:ByteArray}{k:Nat}(l:k<ls.length)(j:(ls[k].toList==t.toList)=true):b8 ls t=true:=by rw[b8,List.any_eq_true];exact⟨ls[k],List.getElem_mem l,j⟩
theorem cD{w:World}{base e:Nat}{v:Value}{ls:List ByteArray}(h:w.ownsRow base e 1 v ls.length (ls.map Value.string))(J:ls.length≤4294967296):bI w v ls:=by
 obtain⟨_,hv⟩:=h;rcases hv with⟨rfl,P⟩|⟨g,cap,j,rfl,hg,T,U,I,ab,l⟩;·have:ls=[]:=List.length_eq_zero_iff.1 P;subst this;exact⟨none,0,rfl,Nat.le_refl _,J,fun h=>absurd rfl h⟩
 ·refine⟨_,cap,rfl,U,J,fun _=>⟨g,0,rfl,fun i hi=>?_⟩⟩;have R:j.toList[i]?=some (.string ls[i]):=by
   have C:(j.toList.take (ls.length*1))[i]?=(ls.map Value.string)[i]?:=by rw[l]
   rw[List.getElem?_take,if_pos (by omega)]at C;rw[C];simp[hi]
  have C:j[i]?=some (.string ls[i]):=by rw[←R];simp
  simp only[World.cell?,T];simpa using C
theorem fl{w w':World}{base e size:Nat}{v:Value}{n:Nat}{J:List Value}(h:w.ownsRow base e size v n J)(R:Below w.heap.size w w'):w'.ownsRow base e size v n J:=by
 obtain⟨P,I⟩:=h;refine⟨P,?_⟩;rcases I with I|⟨g,cap,j,rfl,T,l,r⟩;·exact .inl I
 ·have C:g<w.heap.size:=by
   rcases Nat.lt_or_ge g w.heap.size with h|h;·exact h
   ·rw[Array.getElem?_eq_none h]at l;exact absurd l (by simp)
  exact .inr ⟨g,cap,j,rfl,T,by rw[R.block g C];exact l,r⟩
theorem eG{w:World}{base e size:Nat}{v:Value}{n:Nat}{J:List Value}(h:w.ownsRow base e size v n J):∀k,v.ownBlock=some k→base≤k:=by
 obtain⟨_,I⟩:=h;rcases I with⟨rfl,_⟩|⟨g,cap,l,rfl,C,r⟩;·intro k j;cases j
 ·intro k j;cases j;exact C
theorem fw(ls:List ByteArray)(t:ByteArray)(v:Value)(w:World)(hv:bI w v ls):Calls Tryz.prog 131 #[v,.string t] w fun e w'=>e=.returned (.bool (b8 ls t))∧w'=w:=by
 obtain⟨ao,cap,rfl,hc,hm,U⟩:=hv;have HR:=aa U;clear U;go_enter Tryz.func131,Tryz.ntmps131;go_wp2_with fail;go_loop[5](fun i=>∃k:Nat,k≤ls.length∧i=.int .i64 k∧b8 (ls.take k) t=false)(fun i=>ls.length-(intOf i).toNat);case atStart=>exact⟨0,Nat.zero_le _,rfl,rfl⟩
 case round=>
  obtain⟨k,hk,rfl,C⟩:=hrel;have R:=aa C;clear C;by_cases l:k<ls.length;·
   obtain⟨b,o,rfl,j⟩:=HR.out (by intro h;simp[h]at l);have J:=j k l;obtain⟨s,P⟩:∃s,s=ls[k]:=⟨_,rfl⟩;rw[←P]at J;have I:=aa P;clear j P;cases heq:(s.toList==t.toList);all_goals have T:=aa heq
   ·go_wp2_with fail;go_round;case rel=>exact⟨k+1,by omega,by go_num,vI l R.out (by rw[←I.out];exact T.out)⟩
    case measure=>simp[intOf];omega
   ·go_wp2_with fail;go_ret;exact⟨aC (zm l (by rw[←I.out];exact T.out)),rfl⟩
  ·go_wp2_with fail;go_ret;refine⟨aC ?_,rfl⟩;have:=R.out;rwa[List.take_of_length_le (by omega)]at this
theorem Fx(ls:List ByteArray)(t:ByteArray)(v:Value)(w:World)(hv:bI w v ls):Calls Tryz.prog 226 #[v,.string t] w fun e w'=>∃j:Int,e=.returned (.int .i64 j)∧decide (0≤j)=b8 ls t∧w'=w:=by
 obtain⟨ao,cap,rfl,hc,hm,hr⟩:=hv;have HR:=aa hr;clear hr;go_enter Tryz.func226,Tryz.ntmps226;go_wp2_with fail;go_loop[8](fun i=>∃k:Nat,k≤ls.length∧i=.int .i64 k∧b8 (ls.take k) t=false)(fun i=>ls.length-(intOf i).toNat);case atStart=>exact⟨0,Nat.zero_le _,rfl,rfl⟩
 case round=>
  obtain⟨k,hk,rfl,I⟩:=hrel;have T:=aa I;clear I;by_cases C:k<ls.length;·
   obtain⟨b,o,rfl,l⟩:=HR.out (by intro h;simp[h]at C);have P:=l k C;obtain⟨s,R⟩:∃s,s=ls[k]:=⟨_,rfl⟩;rw[←R]at P;have J:=aa R;clear l R;cases heq:(t.toList==s.toList);all_goals have U:=aa heq
   ·go_wp2_with fail;go_round;case rel=>exact⟨k+1,by omega,by go_num,vI C T.out (by rw[←J.out,Bool.beq_comm];exact U.out)⟩
    case measure=>simp[intOf];omega
   ·go_wp2_with fail;go_ret;exact⟨_,rfl,by rw[zm C (by rw[←J.out,Bool.beq_comm];exact U.out)];simp,rfl⟩
  ·go_wp2_with fail;go_ret;refine⟨_,rfl,?_,rfl⟩;have:=T.out;rw[List.take_of_length_le (by omega)]at this;rw[this];rfl
theorem fI(ls:List ByteArray)(t:ByteArray)(v:Value)(w:World)(C:bI w v ls):Calls Tryz.prog 184 #[v,.string t] w fun e w'=>e=.returned (.bool (b8 ls t))∧w'=w:=by have J:=aa C;obtain⟨U,cap,rfl,P,R,T⟩:=C;clear T P R;go_enter Tryz.func184,Tryz.ntmps184;go_wp2_with(go_at_call 226;refine(Fx ls t _ _ J.out).mono ?_;rintro e w'⟨j,rfl,l,rfl⟩;have I:=aa l;clear l);go_ret;exact⟨aC I.out.symm,rfl⟩
def bw(go:List Nd→Option (List Nd)):Nat→List ByteArray→List Nd→Option (List Nd)|0,_,l=>some l|_+1,_,[]=>none|m+1,ls,n::l=>if eD n&&!b8 ls n.name then match go l with|none=>none|some r=>bw go m (ls++[n.name]) r else none
def ahead(T:Nd→Bool):Nat→List Nd→List Nd→Option (List Nd)|_,_,[]=>none|0,st,n::l=>if n.op==0 then(if gX n then some l else none)else if n.op==1 then(if mL n&&eK false st n.name then some l else none)else none|f+1,st,n::l=>if n.op==0 then(if gX n then some l else none)else if n.op==1 then(if mL n&&eK false st n.name then some l else none)else if n.op==2 then(if iD n&&!bW st n.name then ahead T f (n::st) l else none)else if T n then bw (ahead T f (n::st)) n.many.toNat [] l else none
def Told(w':World)(B:Nat)(e:Ending)(r:Option (List Nd)):Prop:=∃v,e=.returned (.tuple #[v,.bool r.isSome])∧(∀l,r=some l→bF w' B v l)
def iW(f:Nat):Prop:=∀(st l:List Nd)(v p:Value)(w:World)(B:Nat),st.length+f=10→(∀n∈l,n.ok)→B≤w.heap.size→bF w B v l→bE w p st→Calls Tryz.prog 240 #[v,p] w fun e w'=>Told w' B e (ahead ei f st l)∧Below w.heap.size w w'
theorem Tryz.lh:(Tryz.prog.info? 9).map (fun i=>(i.zero,i.size,i.bytes))=some (some (.string ByteArray.empty),1,16):=by kernel_rfl
theorem rl{go:List Nd→Option (List Nd)}{m:Nat}{ls:List ByteArray}(h:0<m):bw go m ls []=none:=by cases m with|zero=>omega|succ m=>rfl
theorem jD{go:List Nd→Option (List Nd)}{m:Nat}{ls:List ByteArray}{n:Nd}{l:List Nd}(h:0<m)(j:(eD n&&!b8 ls n.name)=false):bw go m ls (n::l)=none:=by cases m with|zero=>omega|succ m=>rw[bw,if_neg (by simp[j])]
theorem ow{go:List Nd→Option (List Nd)}{m:Nat}{ls:List ByteArray}{n:Nd}{l:List Nd}(h:0<m)(j:(eD n&&!b8 ls n.name)=true)(C:go l=none):bw go m ls (n::l)=none:=by cases m with|zero=>omega|succ m=>rw[bw,if_pos j,C]
theorem ux{go:List Nd→Option (List Nd)}{m k:Nat}{ls:List ByteArray}{n:Nd}{l r:List Nd}(h:k<m)(j:(eD n&&!b8 ls n.name)=true)(C:go l=some r):bw go (m-k) ls (n::l)=bw go (m-(k+1)) (ls++[n.name]) r:=by rw[show m-k=(m-(k+1))+1 from by omega,bw,if_pos j,C]
theorem pC{go:List Nd→Option (List Nd)}(C:∀l r,go l=some r→r<:+l):∀(m:Nat)(ls:List ByteArray)(l r:List Nd),bw go m ls l=some r→r<:+l
 |0,_,l,r,h=>by cases h;exact List.suffix_refl _|_+1,_,[],r,h=>by cases h|m+1,ls,n::l,r,h=>by
  rw[bw]at h;split at h;·
   split at h;·cases h
   ·rename_i r' j;exact(pC C m _ _ _ h).trans ((C _ _ j).trans (List.suffix_cons _ _))
  ·cases h
theorem fa(T:Nd→Bool):∀(f:Nat)(st l r:List Nd),ahead T f st l=some r→r<:+l:=by
 intro f;induction f with
  |zero=>
   intro st l r h;cases l with
    |nil=>cases h|cons n l=>
     rw[ahead]at h;repeat' split at h
     all_goals first|cases h;exact List.suffix_cons _ _|cases h
  |succ f ih=>
   intro st l r h;cases l with
    |nil=>cases h|cons n l=>
     rw[ahead]at h;repeat' split at h
     all_goals first|(cases h;exact List.suffix_cons _ _)|(cases h;done)|exact(ih _ _ _ h).trans (List.suffix_cons _ _)|exact(pC (ih _) _ _ _ _ h).trans (List.suffix_cons _ _)
theorem bF.tail{w:World}{B b o cap:Nat}{n:Nd}{l:List Nd}(C:b<B)(R:cO w b o (n::l))(J:(n::l).length≤cap)(T:cap≤9223372036854775807∧l.length<4294967296)(j:Option Addr)(P:cap≠1→j=some ⟨b,o+5,none⟩):bF w B (.slice j l.length (cap-1)) l:=by refine⟨j,cap-1,rfl,by simp at J;omega,by omega,fun I=>?_⟩;have:0<l.length:=List.length_pos_iff.2 I;simp at J;exact⟨b,o+5,P (by omega),C,R.2⟩
theorem pw(f:Nat)(hf:iW f)(n:Nd)(st l:List Nd)(v p:Value)(w:World)(B:Nat)(bb:(n::st).length+f=10)(hm:1≤n.many∧n.many≤4)(ok:∀n∈l,n.ok)(hB:B≤w.heap.size)(hv:bF w B v l)(hp:bE w p (n::st)):Calls Tryz.prog 270 #[v,p] w fun e w'=>Told w' B e (bw (ahead ei f (n::st)) n.many.toNat [] l)∧Below w.heap.size w w':=by
 have HP:=aa hp;have HV:=aa hv;have HF:=aa hf;have HO:=aa ok;have HL:=aa bb;have aM:=aa hB;obtain⟨bp,q,rfl,⟨h0,h1,h2,h3,h4⟩,h5,h6,h⟩:=hp;obtain⟨i0,hi,b3,b4,b5⟩:=info_parts Tryz.lh;obtain⟨m,bn⟩:∃m:Nat,n.many=m:=⟨n.many.toNat,by omega⟩;rw[bn]at hm h3;have cl:1≤m:=by omega
 have cm:m≤4:=by omega
 rw[bn,Int.toNat_natCast];obtain⟨go,bm⟩:∃go,ahead ei f (n::st)=go:=⟨_,rfl⟩;rw[bm];have HG:=aa bm;have HI:=aa (And.intro hi (And.intro b3 (And.intro b4 b5)));clear hf ok hv h0 h1 h2 h4 h5 h6 h hm bn bb bm hB hi b3 b4 b5;go_enter Tryz.func270,Tryz.ntmps270;go_wp2_with fail;go_loopw[0,6,14](fun v a3 i wr=>∃(k:Nat)(av:List Nd)(ls:List ByteArray),k≤m∧i=.int .i64 k∧ls.length=k∧(∀n∈av,n.ok)∧bF wr B v av∧wr.ownsRow w.heap.size 9 1 a3 ls.length (ls.map Value.string)∧Below w.heap.size w wr∧bw go (m-k) ls av=bw go m [] l)(fun _ _ i _=>m-(intOf i).toNat);case atStart=>exact⟨0,l,[],Nat.zero_le _,rfl,rfl,HO.out,HV.out,World.ownsRow_nil _ _ _ _,Below.refl _ _,rfl⟩
 case round=>
  obtain⟨k,av,ls,hk,rfl,bR,b1,b2,bf,a8,a9⟩:=hrel;have az:=aa bR;have al:=aa b1;have cd:=aa b2;have a6:=aa bf;have I:=aa a8;have J:=aa a9;clear bR b1 bf a8 a9;obtain⟨ao,cap,rfl,bL,ch,af⟩:=b2;have bv:=aa af;clear af;by_cases b0:k<m;·
   cases av with
    |nil=>
     go_wp2_with fail;go_ret2;refine⟨⟨.slice none 0 0,?_,?_⟩,I.out⟩;·rw[←J.out,rl (by omega)];rfl
     ·rw[←J.out,rl (by omega)];intro l h;cases h|cons n1 l1=>
     obtain⟨b,o,rfl,cg,af⟩:=bv.out (by simp);have HR:=aa af;obtain⟨⟨c0,c1,c2,c3,c4⟩,-⟩:=af;have bs:=aa cg;have bi:=aa (al.out n1 (by simp));have bx:=aa (cD a6.out (by have:=az.out;omega));have bB:b<wr.heap.size:=World.block_lt_of_cell? wr _ c0;have hz:((l1.length:Int)+1==0)=false:=beq_eq_false_iff_ne.2 (by omega);have b7:=aa bL;have ca:=aa ch;simp only[List.length_cons]at bL;cases a1:eD n1;·
      have ah:=aa a1;clear a1;go_wp2_with(go_at_call 296;refine(mh n1 _ bi.out).mono ?_;rintro e w1⟨rfl,R⟩;rw[ah.out];have ax:=aa R;clear R);go_ret2;have ac:bw go m [] l=none:=by rw[←J.out];exact jD (by omega) (by rw[ah.out];rfl)
      refine⟨⟨.slice none 0 0,?_,?_⟩,I.out.trans (ax.out.mono I.out.size)⟩;·rw[ac];rfl
      ·rw[ac];intro l h;cases h
     ·have ah:=aa a1;clear a1;cases a2:b8 ls n1.name;·
       have ay:=aa a2;clear a2;have an:=aa (show(eD n1&&!b8 ls n1.name)=true by rw[ah.out,ay.out];rfl);go_wp2_with(first|(go_at_call 296;refine(mh n1 _ bi.out).mono ?_;rintro e w1⟨rfl,R⟩;rw[ah.out];obtain⟨g0,g1,g2,g3,g4⟩:=(HR.out.1.carry bB R);have bl:=aa (bx.out.carry R);have a4:=aa (fl a6.out R);have cn:=R.size;have ax:=aa R;clear R)|(go_at_call 184;refine(fI ls n1.name _ _ bl.out).mono ?_;rintro e w2⟨rfl,rfl⟩;rw[ay.out])|(at_builtin;refine wpList_append_own _ rfl (.tmp 34) (.tmp 39) 42 rfl w.heap.size 9 i0 (.string ByteArray.empty) 1 16 Tryz.underlying42 HI.out.1 HI.out.2.1 HI.out.2.2.1 HI.out.2.2.2 rfl (by decide) _ _ _ rfl (a4.out.alloc _) ⟨_,0,none⟩ 1 1 [.string n1.name] rfl rfl ?c1 ?c2 ?c3 ?c4 ?c5 ?_));case c1=>intro j u hj;match j,hj with|0,hj=>simp at hj;subst hj;simp[Addr.add]
       case c2=>intro u hu;simp at hu;subst hu;rfl
       case c3=>have:=az.out;unfold maxLen;omega
       case c4=>have:=az.out;omega
       case c5=>have:=I.out.size;simp;omega
       intro v' w3 aN aq _;have a5:=aa aN;have a7:=aa ((ax.out.mono I.out.size).trans (((aE _ _).mono (by have:=I.out.size;omega)).grown aq (by have:=I.out.size;simp;omega) (eG a4.out)));have C:=aa (I.out.trans a7.out);have cc:Hid (∀a0,(cap≠1→a0=some ⟨b,o+5,none⟩)→bF w3 B (.slice a0 l1.length (cap-1)) l1):=aa (fun a0 h=>bF.tail bs.out (HR.out.carry (Nat.lt_of_lt_of_le bs.out aM.out) a7.out) b7.out ca.out a0 h);have aR:=aa (bE.carry C.out HP.out);clear aN aq;by_cases bM:cap=1;·
        have cb:Hid (l1.length=0):=aa (by omega);have aL:Hid (bF w3 B (.slice (some ⟨b,o,none⟩) 0 0) l1):=aa (by rw[List.length_eq_zero_iff.1 cb.out];exact⟨_,_,rfl,Nat.le_refl _,by simp,fun h=>absurd rfl h⟩);subst bM;cases T:go l1 with
         |none=>
          have U:=aa T;clear T;go_wp2_with(go_at_call 240;refine(HF.out (n::st) l1 _ _ _ B HL.out (fun x hx=>al.out x (List.mem_cons_of_mem _ hx)) (Nat.le_trans aM.out C.out.size) aL.out aR.out).mono ?_;rintro e w4⟨⟨v4,rfl,P⟩,ab⟩;rw[HG.out,U.out,Option.isSome_none];have ad:=aa ab;clear P ab);go_ret2;have ac:bw go m [] l=none:=by rw[←J.out];exact ow (by omega) an.out U.out
          refine⟨⟨.slice none 0 0,?_,?_⟩,C.out.trans (ad.out.mono C.out.size)⟩;·rw[ac];rfl
          ·rw[ac];intro l h;cases h|some r=>
          have U:=aa T;clear T;go_wp2_with(go_at_call 240;refine(HF.out (n::st) l1 _ _ _ B HL.out (fun x hx=>al.out x (List.mem_cons_of_mem _ hx)) (Nat.le_trans aM.out C.out.size) aL.out aR.out).mono ?_;rintro e w4⟨⟨v4,rfl,P⟩,ab⟩;rw[HG.out,U.out]at P⊢;rw[Option.isSome_some];replace P:=P r rfl;have bk:=aa P;obtain⟨cf,bz,rfl,br⟩:=P;have ad:=aa ab;clear br ab);go_roundw;case rel=>
           refine⟨k+1,r,ls++[n1.name],by omega,by go_num,by have:=az.out;simp;omega,fun x hx=>al.out x (List.mem_cons_of_mem _ ((fa ei f (n::st) l1 r (by rw[HG.out];exact U.out)).subset hx)),bk.out,?_,C.out.trans (ad.out.mono C.out.size),?_⟩;·have:=fl a5.out ad.out;simpa using this
           ·rw[←J.out];exact(ux b0 an.out U.out).symm
          case measure=>simp[intOf];omega
       ·have aL:=aa (cc.out _ (fun _=>rfl));cases T:go l1 with
         |none=>
          have U:=aa T;clear T;go_wp2_with(go_at_call 240;refine(HF.out (n::st) l1 _ _ _ B HL.out (fun x hx=>al.out x (List.mem_cons_of_mem _ hx)) (Nat.le_trans aM.out C.out.size) aL.out aR.out).mono ?_;rintro e w4⟨⟨v4,rfl,P⟩,ab⟩;rw[HG.out,U.out,Option.isSome_none];have ad:=aa ab;clear P ab);go_ret2;have ac:bw go m [] l=none:=by rw[←J.out];exact ow (by omega) an.out U.out
          refine⟨⟨.slice none 0 0,?_,?_⟩,C.out.trans (ad.out.mono C.out.size)⟩;·rw[ac];rfl
          ·rw[ac];intro l h;cases h|some r=>
          have U:=aa T;clear T;go_wp2_with(go_at_call 240;refine(HF.out (n::st) l1 _ _ _ B HL.out (fun x hx=>al.out x (List.mem_cons_of_mem _ hx)) (Nat.le_trans aM.out C.out.size) aL.out aR.out).mono ?_;rintro e w4⟨⟨v4,rfl,P⟩,ab⟩;rw[HG.out,U.out]at P⊢;rw[Option.isSome_some];replace P:=P r rfl;have bk:=aa P;obtain⟨cf,bz,rfl,br⟩:=P;have ad:=aa ab;clear br ab);go_roundw;case rel=>
           refine⟨k+1,r,ls++[n1.name],by omega,by go_num,by have:=az.out;simp;omega,fun x hx=>al.out x (List.mem_cons_of_mem _ ((fa ei f (n::st) l1 r (by rw[HG.out];exact U.out)).subset hx)),bk.out,?_,C.out.trans (ad.out.mono C.out.size),?_⟩;·have:=fl a5.out ad.out;simpa using this
           ·rw[←J.out];exact(ux b0 an.out U.out).symm
          case measure=>simp[intOf];omega
      ·have ay:=aa a2;clear a2;go_wp2_with(first|(go_at_call 296;refine(mh n1 _ bi.out).mono ?_;rintro e w1⟨rfl,R⟩;rw[ah.out];obtain⟨g0,g1,g2,g3,g4⟩:=(HR.out.1.carry bB R);have bl:=aa (bx.out.carry R);have ax:=aa R;clear R)|(go_at_call 184;refine(fI ls n1.name _ _ bl.out).mono ?_;rintro e w2⟨rfl,rfl⟩;rw[ay.out]));go_ret2;have ac:bw go m [] l=none:=by rw[←J.out];exact jD (by omega) (by rw[ah.out,ay.out];rfl)
       refine⟨⟨.slice none 0 0,?_,?_⟩,I.out.trans (ax.out.mono I.out.size)⟩;·rw[ac];rfl
       ·rw[ac];intro l h;cases h
  ·go_wp2_with fail;go_ret2;have bN:k=m:=by omega
   refine⟨⟨.slice ao av.length cap,?_,?_⟩,I.out⟩;·rw[←J.out,bN,Nat.sub_self];rfl
   ·rw[←J.out,bN,Nat.sub_self];intro l h;cases h;exact cd.out
def aU:List Nd→List ByteArray|[]=>[]|n::st=>if n.op==2 then aU st++[n.name]else aU st
def dJ:List Nd→Nat|[]=>0|n::st=>if n.op==2 then dJ st else(aU st).length
def jc:List Nd→Prop|[]=>True|n::st=>(n.op≠2∨n.op=2∧b8 (aU st) n.name=false)∧jc st
theorem ft:∀st:List Nd,dJ st≤(aU st).length|[]=>Nat.le_refl _|n::st=>by have:=ft st;rw[dJ,aU];cases h:(n.op==2)<;>simp<;>omega
theorem kx(a b:List ByteArray)(t:ByteArray):b8 (a++b) t=(b8 a t||b8 b t):=by simp[b8]
theorem jo:∀st:List Nd,(aU st).length≤st.length|[]=>Nat.le_refl _|n::st=>by have:=jo st;rw[aU];split<;>simp<;>omega
theorem fU:∀(st:List Nd)(t:ByteArray),bW st t=b8 (aU st) t
 |[],_=>rfl|n::st,t=>by
  have:=fU st t;rw[bW]at*;rw[List.any_cons,this,aU];cases h:(n.op==2);·simp
  ·rw[if_pos rfl,kx];simp[b8,Bool.or_comm]
theorem sY:∀(st:List Nd)(t:ByteArray),jc st→eK true st t=b8 (aU st) t
 |[],_,_=>rfl|n::st,t,h=>by
  have ih:=sY st t h.2;rw[eK,aU];rcases h.1 with l|⟨j,I⟩;·simp[l,ih]
  ·have e:(n.op==2)=true:=by rw[j];rfl
   rw[e,if_pos rfl,if_pos rfl,kx,ih];cases C:(n.name.toList==t.toList)<;>simp[b8,C]
theorem mf:∀(st:List Nd)(t:ByteArray),jc st→eK false st t=b8 ((aU st).take (dJ st)) t
 |[],_,_=>rfl|n::st,t,h=>by
  rw[eK,aU,dJ];rcases h.1 with J|⟨I,j⟩;·simp[J,sY st t h.2]
  ·have ih:=mf st t h.2;have P:=ft st;have e:(n.op==2)=true:=by rw[I];rfl
   rw[e];simp only[if_true];rw[List.take_append_of_le_length P];cases C:(n.name.toList==t.toList);·rw[if_neg (by decide)];exact ih
   ·rw[if_pos rfl];symm;rw[beq_iff_eq]at C;rw[b8,←Bool.not_eq_true,List.any_eq_true];rintro⟨s,R,l⟩;have:b8 (aU st) n.name=true:=by rw[b8,List.any_eq_true];exact⟨s,List.mem_of_mem_take R,by rw[C];exact l⟩
    rw[j]at this;cases this
def endPos(all:List Nd)(r:Option (List Nd)):Int:=match r with|none=>-1|some r=>((all.length-r.length:Nat):Int)
def hG(w:World)(l:Nat)(part:Bool)(all:List Nd):Prop:=∃j cap,w.cell? ⟨l,0,none⟩=some (.slice j all.length cap)∧w.cell? ⟨l,1,none⟩=some (.bool part)∧all.length≤cap∧all.length≤4294967296∧(all≠[]→∃b o,j=some ⟨b,o,none⟩∧cO w b o all)
theorem hG.carry{w w':World}{j:Nat}{part:Bool}{all:List Nd}(h:hG w j part all)(J:Below w.heap.size w w'):hG w' j part all:=by obtain⟨T,cap,P,U,h2,h3,h4⟩:=h;have C:j<w.heap.size:=World.block_lt_of_cell? w _ P;refine⟨T,cap,(J.cell (p:=⟨j,_,none⟩) C).trans P,(J.cell (p:=⟨j,_,none⟩) C).trans U,h2,h3,fun I=>?_⟩;obtain⟨b,o,e,R⟩:=h4 I;cases all with|nil=>exact absurd rfl I|cons n l=>exact⟨b,o,e,R.carry R.lt J⟩
def kU(part:Bool)(f:Nat):Prop:=∀(st all:List Nd)(pos bx:Nat)(a d op:Int)(j:Value)(w:World),st.length+f=10→jc st→(∀n∈all,n.ok)→a=pos→pos≤all.length→d=(st.length+1:Nat)→op=dJ st→hG w bx part all→bI w j (aU st)→(aU st=[]→j=.slice none 0 0)→Calls Tryz.prog 232 #[.pointer (some ⟨bx,0,none⟩),.int .i64 a,.int .i64 d,j,.int .i64 op] w fun e w'=>e=.returned (.int .i64 (endPos all (ahead (bA part) f st (all.drop pos))))∧Below w.heap.size w w'
theorem ib{all:List Nd}{j:Nat}(h:j<all.length):all.drop j=all[j]::all.drop (j+1):=List.drop_eq_getElem_cons h
theorem G8{all:List Nd}{j:Nat}{r:List Nd}(h:r<:+all.drop j):r=all.drop (all.length-r.length):=List.suffix_iff_eq_drop.1 (h.trans (List.drop_suffix _ _))
theorem Hg(part:Bool)(f:Nat)(hf:kU part f)(st all:List Nd)(T bx m:Nat)(a0 mm d:Int)(rv:Value)(w:World)(a6:st.length+f=10)(bs:jc st)(ok:∀n∈all,n.ok)(ha:a0=T)(ax:T≤all.length)(bR:mm=m)(hm:m≤4)(hd:d=(st.length+1:Nat))(ao:dJ st=(aU st).length)(hx:hG w bx part all)(hr:bI w rv (aU st))(a7:aU st=[]→rv=.slice none 0 0):Calls Tryz.prog 261 #[.pointer (some ⟨bx,0,none⟩),.int .i64 a0,.int .i64 mm,.int .i64 d,rv] w fun e w'=>e=.returned (.int .i64 (endPos all (bw (ahead (bA part) f st) m [] (all.drop T))))∧Below w.heap.size w w':=by
 have HX:=aa hx;have HR:=aa hr;have HF:=aa hf;have HO:=aa ok;have HL:=aa a6;have bp:=aa bs;have bk:=aa ao;have HD:=aa hd;have HP:=aa ax;obtain⟨i0,hi,bv,bz,bB⟩:=info_parts Tryz.lh;have HI:=aa (And.intro hi (And.intro bv (And.intro bz bB)));obtain⟨cb,b4,rfl,cc,cd,-⟩:=hr;have a1:=aa a7;clear a7;obtain⟨go,bi⟩:∃go,ahead (bA part) f st=go:=⟨_,rfl⟩;rw[bi];have HG:=aa bi;subst ha bR;clear hx hf ok a6 bs ao hi bv bz bB bi hd ax;go_enter Tryz.func261,Tryz.ntmps261;go_wp2_with fail;go_loopw[1,2,11](fun at_ many aN wr=>∃(k pos:Nat)(ls:List ByteArray),k≤m∧at_=.int .i64 pos∧many=.int .i64 ((m-k:Nat):Int)∧ls.length=k∧pos≤all.length∧wr.ownsRow w.heap.size 9 1 aN ls.length (ls.map Value.string)∧Below w.heap.size w wr∧bw go (m-k) ls (all.drop pos)=bw go m [] (all.drop T))(fun _ many _ _=>(intOf many).toNat);case atStart=>exact⟨0,T,[],Nat.zero_le _,rfl,rfl,rfl,HP.out,⟨rfl,.inr ⟨w.heap.size,0,#[],rfl,Nat.le_refl _,by show(w.heap.push _)[w.heap.size]?=_;simp,Nat.le_refl _,by unfold maxLen;omega,rfl,rfl⟩⟩,aE _ _,rfl⟩
 case round=>
  obtain⟨k,pos,ls,hk,rfl,rfl,br,ax,aq,U,a5⟩:=hrel;have bb:=aa br;have a2:=aa aq;have J:=aa U;have I:=aa a5;have R:=U.size;have bM:=aa (HX.out.carry U);have ah:=aa (cD aq (by omega));clear br aq U a5;obtain⟨cf,b5,x0,x1,x2,x3,x4⟩:=bM.out;have bn:=aa x4;have ca:bx<wr.heap.size:=World.block_lt_of_cell? wr _ x0;clear x4;by_cases bN:k<m;·
   have hq:decide ((0:Int)<((m-k:Nat):Int))=true:=decide_eq_true (by omega);by_cases aM:pos<all.length;·
    have b0:decide ((all.length:Int)≤(pos:Int))=false:=decide_eq_false (by omega);obtain⟨b,o,rfl,a8⟩:=bn.out (by intro h;simp[h]at aM);have an:=a8.get pos aM;obtain⟨C,aL⟩:∃C,C=all[pos]:=⟨_,rfl⟩;have l:=aa (show all.drop pos=C::all.drop (pos+1)by rw[aL];exact ib aM);have af:=aa (show C.ok by rw[aL];exact HO.out _ (List.getElem_mem aM));rw[←aL]at an;clear aL;obtain⟨c0,c1,c2,c3,c4⟩:=an;have b7:b<wr.heap.size:=World.block_lt_of_cell? wr _ c0;clear a8;by_cases q1:C.op=4;·
     have b1:(C.op !=4)=false:=by rw[q1];rfl
     have Q1:=aa q1;clear q1;cases hw:db C.name;·have HW:=aa hw;clear hw;go_wp2_with(first|(go_at_call 259;refine(il C.name _ af.out.1).mono ?_;rintro e w1⟨rfl,rfl⟩;rw[HW.out]));go_ret;refine⟨bd ?_,J.out.trans ((aE _ _).mono R)⟩;rw[←I.out,l.out,jD (by omega) (by simp[eD,HW.out])];rfl
     ·have HW:=aa hw;clear hw;cases hh:b8 ls C.name;·
       have HH:=aa hh;clear hh;cases hs:kO C.sort;·have HS:=aa hs;clear hs;go_wp2_with(first|(go_at_call 259;refine(il C.name _ af.out.1).mono ?_;rintro e w1⟨rfl,rfl⟩;rw[HW.out])|(go_at_call 131;refine(fw ls C.name _ _ (ah.out.carry (aE _ _))).mono ?_;rintro e w1⟨rfl,rfl⟩;rw[HH.out])|(go_at_call 178;refine(uQ C.sort _).mono ?_;rintro e w1⟨rfl,rfl⟩;rw[HS.out]));go_ret;refine⟨bd ?_,J.out.trans ((aE _ _).mono R)⟩;rw[←I.out,l.out,jD (by omega) (by simp[eD,HS.out])];rfl
       ·have HS:=aa hs;clear hs;by_cases q2:C.peer.toList=[];·
         by_cases q3:C.many=0;·
          have a4:=aa (show(eD C&&!b8 ls C.name)=true by rw[eD,Q1.out,HW.out,HH.out,HS.out,q2,q3];rfl);have b2:(C.many !=0)=false:=by rw[q3];rfl
          clear q3;go_wp2_with(first|(go_at_call 259;refine(il C.name _ af.out.1).mono ?_;rintro e w1⟨rfl,rfl⟩;rw[HW.out])|(go_at_call 131;refine(fw ls C.name _ _ (ah.out.carry (aE _ _))).mono ?_;rintro e w1⟨rfl,rfl⟩;rw[HH.out])|(go_at_call 178;refine(uQ C.sort _).mono ?_;rintro e w1⟨rfl,rfl⟩;rw[HS.out])|(at_builtin;refine wpList_append_own _ rfl (.tmp 63) (.tmp 66) 42 rfl w.heap.size 9 i0 (.string ByteArray.empty) 1 16 Tryz.underlying42 HI.out.1 HI.out.2.1 HI.out.2.2.1 HI.out.2.2.2 rfl (by decide) _ _ _ rfl ((a2.out.alloc _).alloc _) ⟨_,0,none⟩ 1 1 [.string C.name] rfl rfl ?c1 ?c2 ?c3 ?c4 ?c5 ?_));case c1=>intro j u hj;match j,hj with|0,hj=>simp at hj;subst hj;simp[Addr.add]
          case c2=>intro u hu;simp at hu;subst hu;rfl
          case c3=>have:=bb.out;unfold maxLen;omega
          case c4=>have:=bb.out;omega
          case c5=>simp;omega
          intro v' w3 av ac _;have bl:=aa av;have P:=aa (J.out.trans (((((aE _ _).mono R).alloc (by simp;omega) _)).grown ac (by simp;omega) (eG a2.out)));have a9:=P.out.size;have aR:=aa (HX.out.carry P.out);have a3:=aa (HR.out.carry P.out);clear av ac;cases ab:go (all.drop (pos+1))with
           |none=>have ad:=aa ab;clear ab;have b3:decide (endPos all none<0)=true:=rfl;go_wp2_with(go_at_call 232;refine(HF.out st all (pos+1) bx _ _ _ _ _ HL.out bp.out HO.out (by omega) (by omega) HD.out (by rw[bk.out]) aR.out a3.out a1.out).mono ?_;rintro e w4⟨rfl,al⟩;rw[HG.out,ad.out,show endPos all none=-1 from rfl];have az:=aa al;clear al);go_ret;refine⟨bd ?_,P.out.trans (az.out.mono a9)⟩;rw[←I.out,l.out,ow (by omega) a4.out ad.out];rfl|some r=>
            have ad:=aa ab;clear ab;have bm:=aa (G8 (fa (bA part) f st _ r (by rw[HG.out];exact ad.out)));obtain⟨bL,ay⟩:∃p2,all.length-r.length=p2:=⟨_,rfl⟩;have bf:=aa ay;clear ay;go_wp2_with(go_at_call 232;refine(HF.out st all (pos+1) bx _ _ _ _ _ HL.out bp.out HO.out (by omega) (by omega) HD.out (by rw[bk.out]) aR.out a3.out a1.out).mono ?_;rintro e w4⟨rfl,al⟩;rw[HG.out,ad.out,show endPos all (some r)=((all.length-r.length:Nat):Int)from rfl,bf.out];have az:=aa al;clear al);go_roundw;case rel=>
             refine⟨k+1,bL,ls++[C.name],by omega,rfl,?_,by have:=bb.out;simp;omega,by have:=bf.out;omega,?_,P.out.trans (az.out.mono a9),?_⟩;·congr 1;omega
             ·have:=fl bl.out az.out;simpa using this
             ·rw[←I.out,l.out,ux bN a4.out ad.out];have:=bm.out;rw[bf.out]at this;rw[←this]
            case measure=>simp[intOf];omega
         ·have b2:(C.many !=0)=true:=by rw[bne_iff_ne];exact q3
          go_wp2_with(first|(go_at_call 259;refine(il C.name _ af.out.1).mono ?_;rintro e w1⟨rfl,rfl⟩;rw[HW.out])|(go_at_call 131;refine(fw ls C.name _ _ (ah.out.carry (aE _ _))).mono ?_;rintro e w1⟨rfl,rfl⟩;rw[HH.out])|(go_at_call 178;refine(uQ C.sort _).mono ?_;rintro e w1⟨rfl,rfl⟩;rw[HS.out]));go_ret;refine⟨bd ?_,J.out.trans ((aE _ _).mono R)⟩;rw[←I.out,l.out,jD (by omega) (by simp[eD,q3])];rfl
        ·clear Q1;go_wp2_with(first|(go_at_call 259;refine(il C.name _ af.out.1).mono ?_;rintro e w1⟨rfl,rfl⟩;rw[HW.out])|(go_at_call 131;refine(fw ls C.name _ _ (ah.out.carry (aE _ _))).mono ?_;rintro e w1⟨rfl,rfl⟩;rw[HH.out])|(go_at_call 178;refine(uQ C.sort _).mono ?_;rintro e w1⟨rfl,rfl⟩;rw[HS.out]));go_ret;refine⟨bd ?_,J.out.trans ((aE _ _).mono R)⟩;rw[←I.out,l.out,jD (by omega) (by simp[eD,q2])];rfl
      ·have HH:=aa hh;clear hh;go_wp2_with(first|(go_at_call 259;refine(il C.name _ af.out.1).mono ?_;rintro e w1⟨rfl,rfl⟩;rw[HW.out])|(go_at_call 131;refine(fw ls C.name _ _ (ah.out.carry (aE _ _))).mono ?_;rintro e w1⟨rfl,rfl⟩;rw[HH.out]));go_ret;refine⟨bd ?_,J.out.trans ((aE _ _).mono R)⟩;rw[←I.out,l.out,jD (by omega) (by simp[eD,HH.out])];rfl
    ·have b1:(C.op !=4)=true:=by rw[bne_iff_ne];exact q1
     go_wp2_with fail;go_ret;refine⟨bd ?_,J.out.trans ((aE _ _).mono R)⟩;rw[←I.out,l.out,jD (by omega) (by simp[eD,q1])];rfl
   ·have b0:decide ((all.length:Int)≤(pos:Int))=true:=decide_eq_true (by omega);go_wp2_with fail;go_ret;refine⟨bd ?_,J.out⟩;rw[←I.out,List.drop_of_length_le (by omega),rl (by omega)];rfl
  ·have hq:decide ((0:Int)<((m-k:Nat):Int))=false:=decide_eq_false (by omega);go_wp2_with fail;go_ret;refine⟨bd ?_,J.out⟩;rw[←I.out,show m-k=0 from by omega];simp[bw,endPos];omega
def Nd.cells(n:Nd):List Value:=[.int .i64 n.op,.string n.name,.string n.peer,.int .i64 n.many,.int .i64 n.sort]
theorem Nd.bg(n:Nd):n.cells.length=5:=rfl
theorem Nd.cells_one(n:Nd):∀u∈n.cells,u.oneCell'=true:=by intro u hu;simp[Nd.cells]at hu;rcases hu with rfl|rfl|rfl|rfl|rfl<;>rfl
theorem iu(l:List Nd):∀u∈l.flatMap Nd.cells,u.oneCell'=true:=fun u hu=>by obtain⟨x,_,j⟩:=List.mem_flatMap.1 hu;exact Nd.cells_one x u j
def bZ(w:World)(base:Nat)(v:Value)(l:List Nd):Prop:=w.ownsRow base 156 5 v l.length (l.flatMap Nd.cells)
theorem bZ.below{w w':World}{base:Nat}{v:Value}{l:List Nd}(h:bZ w base v l)(j:Below w.heap.size w w'):bZ w' base v l:=aJ h j
theorem bZ.snoc{w:World}{base:Nat}{v:Value}{l r:List Nd}(h:w.ownsRow base 156 5 v (l.length+r.length) (l.flatMap Nd.cells++r.flatMap Nd.cells)):bZ w base v (l++r):=by unfold bZ;rw[List.length_append,List.flatMap_append];exact h
theorem bZ.at_{w:World}{base:Nat}{v:Value}{l:List Nd}(h:bZ w base v l)(J:0<l.length):∃g c,v=.slice (some ⟨g,0,none⟩) l.length c∧g<w.heap.size∧base≤g:=by
 rcases h.2 with⟨_,R⟩|⟨g,cap,C,P,I,j,_⟩;·omega
 ·exact⟨g,cap,P,(Array.getElem?_eq_some_iff.1 j).1,I⟩
theorem bZ.cell{w:World}{base g c:Nat}{l:List Nd}(h:bZ w base (.slice (some ⟨g,0,none⟩) l.length c) l)(j:Nat)(u:Value)(C:(l.flatMap Nd.cells)[j]?=some u):w.cell? (Addr.add ⟨g,0,none⟩ j)=some u:=by
 have e:Addr.add ⟨g,0,none⟩ j=⟨g,j,none⟩:=by unfold Addr.add;split<;>simp_all
 rw[e];exact cX h rfl j u C
theorem fq(w:World)(n:Nd)(base b:Nat)(l:b=w.heap.size)(j:base≤w.heap.size):bZ (w.alloc (.cells #[.int .i64 n.op,.string n.name,.string n.peer,.int .i64 n.many,.int .i64 n.sort] 156)) base (.slice (some ⟨b,0,none⟩) 1 1) [n]:=by subst l;have:=World.ownsRow_lit (e:=156) (size:=5) (base:=base) w #[.int .i64 n.op,.string n.name,.string n.peer,.int .i64 n.many,.int .i64 n.sort] 1 j (by simp[maxLen]) rfl;unfold bZ;simpa[Nd.cells]using this
theorem Tryz.oh:(Tryz.prog.info? 156).map (fun i=>(i.zero,i.size,i.bytes))=some (some (.agg #[.int .i64 0,.string ByteArray.empty,.string ByteArray.empty,.int .i64 0,.int .i64 0]),5,56):=by kernel_rfl
theorem cQ{T:Nd→Bool}{f:Nat}{st l:List Nd}{n:Nd}(h:n.op=0):ahead T f st (n::l)=if gX n then some l else none:=by cases f<;>simp[ahead,h]
theorem du{T:Nd→Bool}{f:Nat}{st l:List Nd}{n:Nd}(h:n.op=1):ahead T f st (n::l)=if mL n&&eK false st n.name then some l else none:=by cases f<;>simp[ahead,h]
theorem dj{T:Nd→Bool}{f:Nat}{st l:List Nd}{n:Nd}(h:n.op=2):ahead T (f+1) st (n::l)=if iD n&&!bW st n.name then ahead T f (n::st) l else none:=by simp[ahead,h]
theorem eB{T:Nd→Bool}{st l:List Nd}{n:Nd}(h:n.op=2):ahead T 0 st (n::l)=none:=by simp[ahead,h]
theorem eP{T:Nd→Bool}{f:Nat}{st l:List Nd}{n:Nd}(j:n.op≠0)(C:n.op≠1)(I:n.op≠2):ahead T (f+1) st (n::l)=if T n then bw (ahead T f (n::st)) n.many.toNat [] l else none:=by simp[ahead,j,C,I]
theorem eC{T:Nd→Bool}{st l:List Nd}{n:Nd}(j:n.op≠0)(C:n.op≠1):ahead T 0 st (n::l)=none:=by simp[ahead,j,C]
theorem yV{T:Nd→Bool}{f:Nat}{st l:List Nd}{n:Nd}(j:n.op≠0)(C:n.op≠1)(I:n.op≠2)(J:T n=false):ahead T f st (n::l)=none:=by cases f<;>simp[ahead,j,C,I,J]
theorem eo{w w':World}{B:Nat}{v:Value}{x:Bool}{r:Option (List Nd)}{I:List Nd}(P:bF w B v I)(J:B≤w.heap.size)(C:Below w.heap.size w w')(j:r=if x then some I else none):Told w' B (.returned (.tuple #[v,.bool x])) r∧Below w.heap.size w w':=by
 refine⟨⟨v,?_,?_⟩,C⟩;·cases x<;>simp[j]
 ·intro l hl;cases x;·simp[j]at hl
  ·simp[j]at hl;subst hl;exact P.carry (C.mono J)
theorem dU{w w':World}{B:Nat}{v:Value}{r:Option (List Nd)}(C:Below w.heap.size w w')(j:r=none):Told w' B (.returned (.tuple #[v,.bool false])) r∧Below w.heap.size w w':=by refine⟨⟨v,by rw[j];rfl,?_⟩,C⟩;rw[j];intro l hl;cases hl
theorem qw{w C w':World}{B:Nat}{e:Ending}{r r':Option (List Nd)}(h:Told w' B e r')(j:Below w.heap.size w C)(l:Below C.heap.size C w')(I:r=r'):Told w' B e r∧Below w.heap.size w w':=⟨I▸h,j.trans (l.mono j.size)⟩
theorem boxed(w:World)(n:Nd)(t:TypeId):cJ (w.alloc (.cells #[.int .i64 n.op,.string n.name,.string n.peer,.int .i64 n.many,.int .i64 n.sort] t)).drew w.heap.size 0 n:=by simp[cJ]
theorem dm{P:Program}{R:Array Oper}{o:Oper}{a:Act}{w:World}{K:Act→World→Prop}{Q:Exit→Act→World→Prop}{E:Prop}(hg:o.guard=none)(s x:Operand)(t:TypeId)(ac:o.op=Op.call {callee:=Callee.builtin Builtin.append,args:=#[s,x],argTypes:=#[t,t]})(base:Nat)(e:TypeId)(i:TypeInfo)(z:Value)(size bytes:Nat)(h1:P.underlying t=some (.slice e))(h2:P.info? e=some i)(h3:i.zero=some z)(h4:i.size=size)(h5:i.bytes=bytes)(h6:z.cells.size=size)(h7:0<size)(v:Value)(n:Nat)(xs:List Value)(hs:a.eval s=v)(I:w.ownsRow base e size v n xs)(U:Addr)(m c:Nat)(l:List Value)(hx:a.eval x=.slice (some U) m c)(hn:l.length=m*size)(hc:∀j u,l[j]?=some u→w.cell? (U.add j)=some u)(ab:∀u∈l,u.oneCell'=true)(b1:n+m≤maxLen)(b2:(n+m)*bytes≤140737488355328)(C:base≤w.heap.size)(hK:∀T w',w'.ownsRow base e size T (n+m) (xs++l)→w.grownBy w' v.ownBlock→K (a.put o.dst T) w'):if Region.wanted o (yielded R a.tmps)=true then Oper.wp P o a w K Q else E:=by
 have hw:Region.wanted o (yielded R a.tmps)=true:=by simp[Region.wanted,hg]
 rw[if_pos hw];obtain⟨T,w',J,r1,r2,_⟩:=run_append_own (P:=P) w base t o.type e i z size bytes h1 h2 h3 h4 h5 h6 h7 v n xs I U m c l hn hc ab b1 b2 C;unfold Oper.wp;simp[execOp,ac,resolve,invoke,builtin,hs,hx,J,Result.andThen];exact hK T w' r1 r2
theorem im{P:Program}{C:Array Oper}{o:Oper}{a:Act}{w:World}{K:Act→World→Prop}{Q:Exit→Act→World→Prop}{E:Prop}(T:o.guard=none)(s x:Operand)(t:TypeId)(I:o.op=Op.call {callee:=Callee.builtin Builtin.append,args:=#[s,x],argTypes:=#[t,t]})(base:Nat)(e:TypeId)(i:TypeInfo)(size:Nat)(h1:P.underlying t=some (.slice e))(h2:P.info? e=some i)(v:Value)(n:Nat)(J:List Value)(U:a.eval s=v)(j:w.ownsRow base e size v n J)(hx:a.eval x=.slice none 0 0)(R:K (a.put o.dst v) w):if Region.wanted o (yielded C a.tmps)=true then Oper.wp P o a w K Q else E:=by
 have hw:Region.wanted o (yielded C a.tmps)=true:=by simp[Region.wanted,T]
 rw[if_pos hw];have l:=run_append_owned_none (P:=P) (w:=w) base t o.type e i size h1 h2 v n J j;unfold Oper.wp;simp[execOp,I,resolve,invoke,builtin,U,hx,l,Result.andThen];exact R
theorem bI.take{w:World}{C:Option Addr}{cap k:Nat}{ls:List ByteArray}(h:bI w (.slice C ls.length cap) ls)(U:k≤ls.length):bI w (.slice C k cap) (ls.take k):=by
 obtain⟨P,J,e,h1,h2,R⟩:=h;cases e;refine⟨C,cap,by rw[List.length_take,Nat.min_eq_left U],by rw[List.length_take];omega,by rw[List.length_take];omega,fun j=>?_⟩;have l:ls≠[]:=by intro h;rw[h]at j;exact j (by simp)
 obtain⟨b,o,rfl,T⟩:=R l;refine⟨b,o,rfl,fun i hi=>?_⟩;have I:i<ls.length:=by rw[List.length_take]at hi;omega
 rw[List.getElem_take];exact T i I
theorem kb{all:List Nd}{j:Nat}(h:j<all.length):endPos all (some (all.drop (j+1)))=(j:Int)+1:=by simp only[endPos,List.length_drop];omega
theorem rU(f:Nat)(ax:∀g,f=g+1→iW g)(st:List Nd)(name j:ByteArray)(many l:Int)(l1:List Nd)(p:Value)(w:World)(B b o cap:Nat)(ab:st.length+f=10)(ok:∀x∈⟨2,name,j,many,l⟩::l1,x.ok)(hB:B≤w.heap.size)(ad:b<B)(af:(⟨2,name,j,many,l⟩::l1).length≤cap)(ah:cap≤9223372036854775807∧l1.length<4294967296)(a0:cap≠1)(R:cO w b o (⟨2,name,j,many,l⟩::l1))(hp:bE w p st):Calls Tryz.prog 240 #[.slice (some ⟨b,o,none⟩) (⟨2,name,j,many,l⟩::l1:List Nd).length cap,p] w fun e w'=>Told w' B e (ahead ei f st (⟨2,name,j,many,l⟩::l1))∧Below w.heap.size w w':=by
 have HP:=aa hp;have HO:=aa ok;have HN:=aa (ok ⟨2,name,j,many,l⟩ (by simp));have HL:=aa ab;have HB:=aa hB;have a1:=aa ad;have HR:=aa R;have a2:=aa af;have a3:=aa ah;obtain⟨u,rfl⟩:=hp.shape;have av:=af;simp only[List.length_cons]at af;have T:=R;obtain⟨⟨c0,c1,c2,c3,c4⟩,-⟩:=R;dsimp only at c0 c1 c2 c3 c4;have a4:b<w.heap.size:=World.block_lt_of_cell? w _ c0;have hz:((l1.length:Int)+1==0)=false:=beq_eq_false_iff_ne.2 (by omega);have aR:Hid (bF w B (.slice (some ⟨b,o+5,none⟩) l1.length (cap-1)) l1):=aa (bF.tail ad T av ah _ (fun _=>rfl));clear T av;clear ok ab hB ad hp ah;have an:=aa (show lV st=(f==0)by rw[lV];have:=HL.out;cases f<;>simp<;>omega);obtain⟨rb,ay⟩:∃rb,iD ⟨2,name,j,many,l⟩=rb:=⟨_,rfl⟩;obtain⟨wi,aL⟩:∃wi,bW st name=wi:=⟨_,rfl⟩;have J:=aa ay;have P:=aa aL;clear ay aL;cases rb;·
  go_enter Tryz.func240,Tryz.ntmps240;go_wp2_with fail;go_region;go_wp2_with(go_at_call 265;refine(gz ⟨2,name,j,many,l⟩ _ HN.out).mono ?_;rintro e U⟨rfl,C⟩;rw[J.out];obtain⟨d0,d1,d2,d3,d4⟩:=cJ.carry (B:=_) (boxed w ⟨2,name,j,many,l⟩ 156) (by simp) C;dsimp only at d0 d1 d2 d3 d4;have al:w.heap.size<U.heap.size:=(by have:=C.size;simp at this;omega);have I:Hid (Below w.heap.size w U):=aa ((aE _ _).drew.trans (C.mono (by simp)));clear C);go_ret2;refine dU I.out ?_;cases f;·exact eB rfl
  ·rw[dj rfl,J.out];rfl
 ·cases wi;·cases f with|zero=>go_enter Tryz.func240,Tryz.ntmps240;go_wp2_with fail;go_region;go_wp2_with(first|(go_at_call 265;refine(gz ⟨2,name,j,many,l⟩ _ HN.out).mono ?_;rintro e U⟨rfl,C⟩;rw[J.out];obtain⟨d0,d1,d2,d3,d4⟩:=cJ.carry (B:=_) (boxed w ⟨2,name,j,many,l⟩ 156) (by simp) C;dsimp only at d0 d1 d2 d3 d4;have al:w.heap.size<U.heap.size:=(by have:=C.size;simp at this;omega);have I:Hid (Below w.heap.size w U):=aa ((aE _ _).drew.trans (C.mono (by simp)));clear C)|(go_at_call 266;refine(j9 st _ name _ (bE.carry I.out HP.out)).mono ?_;rintro e w'⟨rfl,rfl⟩;rw[P.out])|(go_at_call 267;refine(lq st _ _ (bE.carry I.out HP.out)).mono ?_;rintro e w'⟨rfl,rfl⟩;rw[an.out,show((0:Nat)==0)=true from rfl]));go_ret2;refine dU I.out ?_;exact eB rfl|succ f=>have HI:=aa (ax f rfl);clear ax;go_enter Tryz.func240,Tryz.ntmps240;go_wp2_with fail;go_region;go_wp2_with(first|(go_at_call 265;refine(gz ⟨2,name,j,many,l⟩ _ HN.out).mono ?_;rintro e U⟨rfl,C⟩;rw[J.out];obtain⟨d0,d1,d2,d3,d4⟩:=cJ.carry (B:=_) (boxed w ⟨2,name,j,many,l⟩ 156) (by simp) C;dsimp only at d0 d1 d2 d3 d4;have al:w.heap.size<U.heap.size:=(by have:=C.size;simp at this;omega);have I:Hid (Below w.heap.size w U):=aa ((aE _ _).drew.trans (C.mono (by simp)));clear C)|(go_at_call 266;refine(j9 st _ name _ (bE.carry I.out HP.out)).mono ?_;rintro e w'⟨rfl,rfl⟩;rw[P.out])|(go_at_call 267;refine(lq st _ _ (bE.carry I.out HP.out)).mono ?_;rintro e w'⟨rfl,rfl⟩;rw[an.out,show(f+1==0)=false from rfl]));go_wp2_with(first|(go_at_call 268;refine(qp st _ ⟨2,name,j,many,l⟩ _ (bE.carry I.out HP.out) (by have:=HL.out;omega)).mono ?_;rintro e w2⟨q,rfl,hq,ao⟩;obtain⟨uq,rfl⟩:=hq.shape;have HQ:=aa hq;have ac:=aa (I.out.trans (ao.mono I.out.size));clear hq ao)|(go_at_call 240;refine(HI.out (⟨2,name,j,many,l⟩::st) l1 _ _ _ B (by have:=HL.out;simp;omega) (fun x hx=>HO.out x (List.mem_cons_of_mem _ hx)) (Nat.le_trans HB.out ac.out.size) (aR.out.carry (ac.out.mono HB.out)) HQ.out).mono ?_;rintro e w3⟨⟨v3,rfl,az⟩,aq⟩;have aN:=aa az;have aM:=aa aq;clear az aq));go_ret2;exact qw ⟨v3,rfl,aN.out⟩ ac.out aM.out (by rw[dj rfl,J.out];simp[P.out])
  ·go_enter Tryz.func240,Tryz.ntmps240;go_wp2_with fail;go_region;go_wp2_with(first|(go_at_call 265;refine(gz ⟨2,name,j,many,l⟩ _ HN.out).mono ?_;rintro e U⟨rfl,C⟩;rw[J.out];obtain⟨d0,d1,d2,d3,d4⟩:=cJ.carry (B:=_) (boxed w ⟨2,name,j,many,l⟩ 156) (by simp) C;dsimp only at d0 d1 d2 d3 d4;have al:w.heap.size<U.heap.size:=(by have:=C.size;simp at this;omega);have I:Hid (Below w.heap.size w U):=aa ((aE _ _).drew.trans (C.mono (by simp)));clear C)|(go_at_call 266;refine(j9 st _ name _ (bE.carry I.out HP.out)).mono ?_;rintro e w'⟨rfl,rfl⟩;rw[P.out]));go_ret2;refine dU I.out ?_;cases f;·exact eB rfl
   ·rw[dj rfl];simp[P.out]
theorem rT(f:Nat)(ax:∀g,f=g+1→iW g)(st:List Nd)(name j:ByteArray)(many l:Int)(T:List Nd)(p:Value)(w:World)(B b o cap:Nat)(U:st.length+f=10)(ok:∀x∈⟨2,name,j,many,l⟩::T,x.ok)(hB:B≤w.heap.size)(an:b<B)(ao:(⟨2,name,j,many,l⟩::T).length≤cap)(aq:cap≤9223372036854775807∧T.length<4294967296)(av:cap=1)(ab:cO w b o (⟨2,name,j,many,l⟩::T))(hp:bE w p st):Calls Tryz.prog 240 #[.slice (some ⟨b,o,none⟩) (⟨2,name,j,many,l⟩::T:List Nd).length cap,p] w fun e w'=>Told w' B e (ahead ei f st (⟨2,name,j,many,l⟩::T))∧Below w.heap.size w w':=by
 have HP:=aa hp;have HO:=aa ok;have HN:=aa (ok ⟨2,name,j,many,l⟩ (by simp));have HL:=aa U;have HB:=aa hB;have a1:=aa an;have HR:=aa ab;have a2:=aa ao;have a3:=aa aq;obtain⟨u,rfl⟩:=hp.shape;simp only[List.length_cons]at ao;obtain⟨⟨c0,c1,c2,c3,c4⟩,-⟩:=ab;dsimp only at c0 c1 c2 c3 c4;have a4:b<w.heap.size:=World.block_lt_of_cell? w _ c0;have hz:((T.length:Int)+1==0)=false:=beq_eq_false_iff_ne.2 (by omega);have aN:Hid (T.length=0):=aa (by omega);have a0:Hid (bF w B (.slice (some ⟨b,o,none⟩) 0 0) T):=aa (by rw[List.length_eq_zero_iff.1 aN.out];exact⟨_,_,rfl,Nat.le_refl _,by simp,fun h=>absurd rfl h⟩);subst av;clear ok U hB an hp aq;have af:=aa (show lV st=(f==0)by rw[lV];have:=HL.out;cases f<;>simp<;>omega);obtain⟨rb,ay⟩:∃rb,iD ⟨2,name,j,many,l⟩=rb:=⟨_,rfl⟩;obtain⟨wi,aL⟩:∃wi,bW st name=wi:=⟨_,rfl⟩;have J:=aa ay;have P:=aa aL;clear ay aL;cases rb;·
  go_enter Tryz.func240,Tryz.ntmps240;go_wp2_with fail;go_region;go_wp2_with(go_at_call 265;refine(gz ⟨2,name,j,many,l⟩ _ HN.out).mono ?_;rintro e R⟨rfl,C⟩;rw[J.out];obtain⟨d0,d1,d2,d3,d4⟩:=cJ.carry (B:=_) (boxed w ⟨2,name,j,many,l⟩ 156) (by simp) C;dsimp only at d0 d1 d2 d3 d4;have ad:w.heap.size<R.heap.size:=(by have:=C.size;simp at this;omega);have I:Hid (Below w.heap.size w R):=aa ((aE _ _).drew.trans (C.mono (by simp)));clear C);go_ret2;refine dU I.out ?_;cases f;·exact eB rfl
  ·rw[dj rfl,J.out];rfl
 ·cases wi;·cases f with|zero=>go_enter Tryz.func240,Tryz.ntmps240;go_wp2_with fail;go_region;go_wp2_with(first|(go_at_call 265;refine(gz ⟨2,name,j,many,l⟩ _ HN.out).mono ?_;rintro e R⟨rfl,C⟩;rw[J.out];obtain⟨d0,d1,d2,d3,d4⟩:=cJ.carry (B:=_) (boxed w ⟨2,name,j,many,l⟩ 156) (by simp) C;dsimp only at d0 d1 d2 d3 d4;have ad:w.heap.size<R.heap.size:=(by have:=C.size;simp at this;omega);have I:Hid (Below w.heap.size w R):=aa ((aE _ _).drew.trans (C.mono (by simp)));clear C)|(go_at_call 266;refine(j9 st _ name _ (bE.carry I.out HP.out)).mono ?_;rintro e w'⟨rfl,rfl⟩;rw[P.out])|(go_at_call 267;refine(lq st _ _ (bE.carry I.out HP.out)).mono ?_;rintro e w'⟨rfl,rfl⟩;rw[af.out,show((0:Nat)==0)=true from rfl]));go_ret2;refine dU I.out ?_;exact eB rfl|succ f=>have HI:=aa (ax f rfl);clear ax;go_enter Tryz.func240,Tryz.ntmps240;go_wp2_with fail;go_region;go_wp2_with(first|(go_at_call 265;refine(gz ⟨2,name,j,many,l⟩ _ HN.out).mono ?_;rintro e R⟨rfl,C⟩;rw[J.out];obtain⟨d0,d1,d2,d3,d4⟩:=cJ.carry (B:=_) (boxed w ⟨2,name,j,many,l⟩ 156) (by simp) C;dsimp only at d0 d1 d2 d3 d4;have ad:w.heap.size<R.heap.size:=(by have:=C.size;simp at this;omega);have I:Hid (Below w.heap.size w R):=aa ((aE _ _).drew.trans (C.mono (by simp)));clear C)|(go_at_call 266;refine(j9 st _ name _ (bE.carry I.out HP.out)).mono ?_;rintro e w'⟨rfl,rfl⟩;rw[P.out])|(go_at_call 267;refine(lq st _ _ (bE.carry I.out HP.out)).mono ?_;rintro e w'⟨rfl,rfl⟩;rw[af.out,show(f+1==0)=false from rfl]));go_wp2_with(first|(go_at_call 268;refine(qp st _ ⟨2,name,j,many,l⟩ _ (bE.carry I.out HP.out) (by have:=HL.out;omega)).mono ?_;rintro e w2⟨q,rfl,hq,ah⟩;obtain⟨uq,rfl⟩:=hq.shape;have HQ:=aa hq;have ac:=aa (I.out.trans (ah.mono I.out.size));clear hq ah)|(go_at_call 240;refine(HI.out (⟨2,name,j,many,l⟩::st) T _ _ _ B (by have:=HL.out;simp;omega) (fun x hx=>HO.out x (List.mem_cons_of_mem _ hx)) (Nat.le_trans HB.out ac.out.size) (a0.out.carry (ac.out.mono HB.out)) HQ.out).mono ?_;rintro e w3⟨⟨v3,rfl,az⟩,al⟩;have aR:=aa az;have aM:=aa al;clear az al));go_ret2;exact qw ⟨v3,rfl,aR.out⟩ ac.out aM.out (by rw[dj rfl,J.out];simp[P.out])
  ·go_enter Tryz.func240,Tryz.ntmps240;go_wp2_with fail;go_region;go_wp2_with(first|(go_at_call 265;refine(gz ⟨2,name,j,many,l⟩ _ HN.out).mono ?_;rintro e R⟨rfl,C⟩;rw[J.out];obtain⟨d0,d1,d2,d3,d4⟩:=cJ.carry (B:=_) (boxed w ⟨2,name,j,many,l⟩ 156) (by simp) C;dsimp only at d0 d1 d2 d3 d4;have ad:w.heap.size<R.heap.size:=(by have:=C.size;simp at this;omega);have I:Hid (Below w.heap.size w R):=aa ((aE _ _).drew.trans (C.mono (by simp)));clear C)|(go_at_call 266;refine(j9 st _ name _ (bE.carry I.out HP.out)).mono ?_;rintro e w'⟨rfl,rfl⟩;rw[P.out]));go_ret2;refine dU I.out ?_;cases f;·exact eB rfl
   ·rw[dj rfl];simp[P.out]
structure Wv where
 sts:List aK
 eds:List aA
 fs:ByteArray→Int
def eE(j:Int):Int:=if j==5 then 1 else if j==6 then 2 else 0
def dy(go:List Nd→Wv→Int×List Nd×Wv)(s:Int):Nat→List Nd→Wv→List Nd×Wv|0,l,W=>(l,W)|_+1,[],W=>([],W)|k+1,c::l,W=>dy go s k (go l W).2.1 ⟨(go l W).2.2.sts,(go l W).2.2.eds++[⟨s,c.name,c.sort,(go l W).1⟩],(go l W).2.2.fs⟩
def wv:Nat→List Nd→Wv→Int×List Nd×Wv|_,[],W=>(0,[],W)|0,n::l,W=>if n.op==1 then(W.fs n.name,l,W)else((W.sts.length:Int),l,⟨W.sts++[⟨eE n.op,n.peer⟩],W.eds,W.fs⟩)|f+1,n::l,W=>if n.op==1 then(W.fs n.name,l,W)else if n.op==2 then wv f l ⟨W.sts,W.eds,fun x=>if x=n.name then(W.sts.length:Int)else W.fs x⟩else((W.sts.length:Int),dy (wv f) (W.sts.length:Int) n.many.toNat l ⟨W.sts++[⟨eE n.op,n.peer⟩],W.eds,W.fs⟩)
def fX:List ByteArray→List Int→ByteArray→Int|x::ns,z::fis,t=>if x.toList==t.toList then z else fX ns fis t|_,_,_=>0
def bO(ns:List ByteArray)(fis:List Int)(len:Int):List Nd→Int|[]=>0|n::l=>if n.op==1 then fX ns fis n.name else if n.op==2 then bO ns fis len l else len
def gK(e:aA)(l:List aA):List aA:=l.takeWhile (fun x=>bT x e)++e::l.dropWhile (fun x=>bT x e)
def ff(go:List Nd→List aK×List aA→List Nd×List aK×List aA)(j:List Nd→Nat→Int)(s:Int):Nat→List Nd→List aK×List aA→List Nd×List aK×List aA|0,l,S=>(l,S)|_+1,[],S=>([],S)|k+1,c::l,S=>ff go j s k (go l (S.1,gK ⟨s,c.name,c.sort,j l S.1.length⟩ S.2)).1 (go l (S.1,gK ⟨s,c.name,c.sort,j l S.1.length⟩ S.2)).2
def sv:Nat→List ByteArray→List Int→List Nd→List aK×List aA→List Nd×List aK×List aA|_,_,_,[],S=>([],S)|0,_,_,n::l,S=>if n.op==1 then(l,S)else(l,S.1++[⟨eE n.op,n.peer⟩],S.2)|f+1,ns,fis,n::l,S=>if n.op==1 then(l,S)else if n.op==2 then sv f (ns++[n.name]) (fis++[bO (ns++[n.name]) (fis++[0]) S.1.length l]) l S else ff (sv f ns fis) (fun l k=>bO ns fis k l) (S.1.length:Int) n.many.toNat l (S.1++[⟨eE n.op,n.peer⟩],S.2)
def fC:List Nd→Bool|[]=>false|n::l=>if n.op==1 then true else if n.op==2 then fC l else false
structure Inv(st l:List Nd)(fs:ByteArray→Int)(ns:List ByteArray)(fis:List Int):Prop where
 names:ns=aU st
 len:fis.length=ns.length
 said:∀t,eK false st t=true→fs t=fX ns fis t
 open_:fC l=false→∀t,bW st t=true→fs t=fX ns fis t
theorem fZ{a b:ByteArray}:(a.toList==b.toList)=true↔a=b:=by
 constructor;·intro h;have h:=beq_iff_eq.1 h;rw[Go.ByteArray.toList_eq,Go.ByteArray.toList_eq]at h;apply ByteArray.ext;exact Array.ext' h
 ·rintro rfl;simp
theorem oB{ns:List ByteArray}{fis:List Int}(j:fis.length=ns.length)(x:ByteArray)(z:Int)(t:ByteArray):fX (ns++[x]) (fis++[z]) t=if b8 ns t then fX ns fis t else if x.toList==t.toList then z else 0:=by
 induction ns generalizing fis with
  |nil=>have:fis=[]:=List.length_eq_zero_iff.1 j;subst this;simp[fX,b8]|cons y ns ih=>
   match fis,j with
    |u::fis,j=>
     have l:fis.length=ns.length:=by simpa using j
     rw[List.cons_append,List.cons_append,fX,ih l,fX];by_cases h:(y.toList==t.toList)=true;·rw[if_pos h,if_pos (by simp[b8]at h⊢;simp[h]),if_pos h]
     ·rw[if_neg h];have:b8 (y::ns) t=b8 ns t:=by simp only[b8,List.any_cons];rw[Bool.eq_false_iff.2 h];rfl
      rw[this,if_neg h]
theorem pz{ns:List ByteArray}{fis:List Int}{k:Int}:∀{l:List Nd},l≠[]→fC l=false→(∀n∈l,True)→bO ns fis k l=k∨(∀n∈l,n.op=2)
 |[],h,_,_=>absurd rfl h|n::l,_,j,_=>by
  unfold fC at j;unfold bO;by_cases J:(n.op==1)=true;·rw[if_pos J]at j;cases j
  ·rw[if_neg J]at j⊢;by_cases C:(n.op==2)=true;·
    rw[if_pos C]at j⊢;cases l with
     |nil=>right;intro m P;simp at P;subst P;simpa using C|cons m l=>
      rcases pz (ns:=ns) (fis:=fis) (k:=k) (l:=m::l) (by simp) j (fun _ _=>trivial)with h|h;·exact .inl h
      ·right;intro x I;rcases List.mem_cons.1 I with rfl|I;·simpa using C
       ·exact h x I
   ·rw[if_neg C];exact .inl rfl
theorem jx{T:Nd→Bool}:∀(f:Nat)(st l r:List Nd),ahead T f st l=some r→¬(∀n∈l,n.op=2):=by
 intro f;induction f with
  |zero=>intro st l r h j;cases l with|nil=>cases h|cons n l=>have C:=j n (by simp);rw[eB C]at h;cases h
  |succ f ih=>
   intro st l r h j;cases l with
    |nil=>cases h|cons n l=>
     have C:=j n (by simp);rw[dj C]at h;split at h;·exact ih _ _ _ h (fun m I=>j m (by simp[I]))
     ·cases h
theorem Aw{T:Nd→Bool}{f:Nat}{st l r:List Nd}{ns:List ByteArray}{fis:List Int}{k:Int}(h:ahead T f st l=some r)(j:fC l=false):bO ns fis k l=k:=by
 rcases pz (ns:=ns) (fis:=fis) (k:=k) (l:=l) (by rintro rfl;cases f<;>cases h) j (fun _ _=>trivial)with e|e;·exact e
 ·exact absurd e (jx f st l r h)
theorem vT(e:aA)(l:List aA):(gK e l).Perm (e::l):=by unfold gK;refine List.perm_middle.trans ?_;rw[List.takeWhile_append_dropWhile]
theorem oA:∀{ns:List ByteArray}{fis:List Int}{t:ByteArray},b8 ns t=false→fX ns fis t=0|[],_,_,_=>by simp[fX]|_::_,[],_,_=>by simp[fX]|x::ns,z::fis,t,h=>by simp only[b8,List.any_cons,Bool.or_eq_false_iff]at h;rw[fX,if_neg (by rw[h.1];simp)];exact oA h.2
theorem wg{ns:List ByteArray}{fis:List Int}(l:fis.length=ns.length){x:ByteArray}{z:Int}{t:ByteArray}(h:(x.toList==t.toList)=false):fX (ns++[x]) (fis++[z]) t=fX ns fis t:=by
 rw[oB l,h];cases j:b8 ns t;·rw[oA j];simp
 ·simp
theorem tm{T:Nd→Bool}:∀(f:Nat)(st l r:List Nd)(ns:List ByteArray)(fis:List Int)(x:ByteArray)(z k:Int),ahead T f st l=some r→fis.length=ns.length→eK false st x=false→bO (ns++[x]) (fis++[z]) k l=bO ns fis k l:=by
 intro f;induction f with
  |zero=>
   intro st l r ns fis x z k h hl I;cases l with
    |nil=>rfl|cons n l=>
     unfold bO;by_cases j:(n.op==1)=true;·
      rw[if_pos j,if_pos j];rw[du (by simpa using j)]at h;split at h;·
       rename_i J;simp only[Bool.and_eq_true]at J;refine wg hl ?_;cases P:(x.toList==n.name.toList);·rfl
       ·rw[fZ.1 P,J.2]at I;cases I
      ·cases h
     ·rw[if_neg j,if_neg j];by_cases C:(n.op==2)=true;·rw[eB (by simpa using C)]at h;cases h
      ·rw[if_neg C,if_neg C]
  |succ f ih=>
   intro st l r ns fis x z k h hl I;cases l with
    |nil=>rfl|cons n l=>
     unfold bO;by_cases j:(n.op==1)=true;·
      rw[if_pos j,if_pos j];rw[du (by simpa using j)]at h;split at h;·
       rename_i J;simp only[Bool.and_eq_true]at J;refine wg hl ?_;cases P:(x.toList==n.name.toList);·rfl
       ·rw[fZ.1 P,J.2]at I;cases I
      ·cases h
     ·rw[if_neg j,if_neg j];by_cases C:(n.op==2)=true;·
       rw[if_pos C,if_pos C];rw[dj (by simpa using C)]at h;split at h;·
        refine ih (n::st) l r ns fis x z k h hl ?_;rw[eK,if_pos C];split;·rfl
        ·exact I
       ·cases h
      ·rw[if_neg C,if_neg C]
structure Gy(st:List Nd)(fs:ByteArray→Int)(sts:List aK)(eds E:List aA)(o:List Nd×Wv)(p:List Nd×List aK×List aA)(r:List Nd):Prop where ex:∃new fs' sts' E',o=(r,⟨sts',eds++new,fs'⟩)∧p=(r,sts',E')∧E'.Perm (E++new)∧(∀t,bW st t=true→fs' t=fs t)∧sts.length≤sts'.length
def Hy(f:Nat):Prop:=∀(st l r:List Nd)(fs:ByteArray→Int)(sts:List aK)(eds E:List aA)(ns:List ByteArray)(fis:List Int),ahead (bA true) f st l=some r→jc st→Inv st l fs ns fis→(wv f l ⟨sts,eds,fs⟩).1=bO ns fis sts.length l∧Gy st fs sts eds E (wv f l ⟨sts,eds,fs⟩).2 (sv f ns fis l (sts,E)) r
theorem lL{st l:List Nd}{fs:ByteArray→Int}{sts:List aK}{eds E:List aA}(x:List aK):Gy st fs sts eds E (l,⟨sts++x,eds,fs⟩) (l,sts++x,E) l:=⟨[],fs,sts++x,E,by simp,rfl,by simp,fun _ _=>rfl,by simp⟩
theorem tw{f:Nat}(hf:Hy f){st:List Nd}{ns:List ByteArray}{fis:List Int}(ad:jc st)(ab:ns=aU st)(hl:fis.length=ns.length)(I:∀t,eK false st t=true→bW st t=true)(s:Int):∀(m:Nat)(ls:List ByteArray)(l r:List Nd)(fs:ByteArray→Int)(sts:List aK)(eds E:List aA),bw (ahead (bA true) f st) m ls l=some r→(∀t,bW st t=true→fs t=fX ns fis t)→Gy st fs sts eds E (dy (wv f) s m l ⟨sts,eds,fs⟩) (ff (sv f ns fis) (fun l k=>bO ns fis k l) s m l (sts,E)) r
 |0,ls,l,r,fs,sts,eds,E,h,_=>by rw[bw]at h;injection h with h;subst h;exact⟨[],fs,sts,E,by simp[dy],by simp[ff],by simp,fun _ _=>rfl,Nat.le_refl _⟩|m+1,ls,[],r,fs,sts,eds,E,h,_=>by cases h|m+1,ls,c::l,r,fs,sts,eds,E,h,P=>by
  rw[bw]at h;split at h;·
   split at h;·cases h
   ·rename_i r1 ay;have U:Inv st l fs ns fis:=⟨ab,hl,fun t J=>P t (I t J),fun _ t J=>P t J⟩;obtain⟨e1,j,an,ah,E1,ho,hp,ax,R,az⟩:=hf st l r1 fs sts eds (gK ⟨s,c.name,c.sort,bO ns fis sts.length l⟩ E) ns fis ay ad U;obtain⟨C,ao,al,E2,aq,av,ac,T,af⟩:=tw hf ad ab hl I s m (ls++[c.name]) r1 r an ah ((eds++j)++[⟨s,c.name,c.sort,bO ns fis sts.length l⟩]) E1 h (fun t J=>(R t J).trans (P t J));refine⟨j++[⟨s,c.name,c.sort,bO ns fis sts.length l⟩]++C,ao,al,E2,?_,?_,?_,fun t J=>(T t J).trans (R t J),Nat.le_trans az af⟩;·rw[dy,e1,ho];simp only;rw[aq];simp[List.append_assoc]
    ·rw[ff];simp only;rw[hp];exact av
    ·refine ac.trans ?_;refine(List.Perm.append_right C (ax.trans (List.Perm.append_right j (vT _ _)))).trans ?_;rw[List.append_assoc,←List.append_assoc E];refine List.Perm.trans ?_ (List.Perm.of_eq (by simp[List.append_assoc]:(E++j)++([⟨s,c.name,c.sort,bO ns fis sts.length l⟩]++C)=_));show(_::(E++(j++C))).Perm _;rw[←List.append_assoc];exact(List.perm_middle (a:=(⟨s,c.name,c.sort,bO ns fis sts.length l⟩:aA)) (l₁:=E++j) (l₂:=C)).symm
  ·cases h
abbrev dh:ByteArray:=ByteArray.empty
structure Br(α:Type)where
 l:ByteArray
 s:Int
 p:α
structure Tk where
 op:Int
 a:ByteArray
 b:ByteArray
def Pn:Nat→Type|0=>Option ByteArray|n+1=>Sum (Option ByteArray) (Sum (ByteArray×Pn n) (Tk×List (Br (Pn n))))
def Pn.leaf{n:Nat}(x:Option ByteArray):Pn (n+1):=Sum.inl x
def Pn.loop{n:Nat}(x:ByteArray)(q:Pn n):Pn (n+1):=Sum.inr (Sum.inl (x,q))
def Pn.cV{n:Nat}(t:Tk)(l:List (Br (Pn n))):Pn (n+1):=Sum.inr (Sum.inr (t,l))
theorem Pn.cases{n:Nat}{P:Pn (n+1)→Prop}(j:∀x,P (.leaf x))(C:∀x q,P (.loop x q))(I:∀t l,P (.cV t l)):∀p,P p|Sum.inl x=>j x|Sum.inr (Sum.inl (x,q))=>C x q|Sum.inr (Sum.inr (t,l))=>I t l
def Pn.by{n:Nat}{β:Type}(j:Option ByteArray→β)(C:ByteArray→Pn n→β)(I:Tk→List (Br (Pn n))→β):Pn (n+1)→β|Sum.inl x=>j x|Sum.inr (Sum.inl (x,q))=>C x q|Sum.inr (Sum.inr (t,l))=>I t l
def bP:Option ByteArray→List Nd|none=>[⟨0,dh,dh,0,0⟩]|some x=>[⟨1,x,dh,0,0⟩]
def aT{α:Type}(f:α→List Nd)(l:List (Br α)):List Nd:=l.flatMap fun b=>⟨4,b.l,dh,0,b.s⟩::f b.p
theorem cA{α:Type}(f:α→List Nd)(b:Br α)(l:List (Br α)):aT f (b::l)=⟨4,b.l,dh,0,b.s⟩::(f b.p++aT f l):=by rw[aT,List.flatMap_cons];rfl
theorem iT{α:Type}(f:α→List Nd)(l r:List (Br α)):aT f (l++r)=aT f l++aT f r:=by unfold aT;rw[List.flatMap_append]
def aw:(n:Nat)→Pn n→List Nd|0,x=>bP x|n+1,p=>p.by bP (fun x q=>⟨2,x,dh,0,0⟩::aw n q) (fun t l=>⟨t.op,t.a,t.b,(l.length:Int),0⟩::aT (aw n) l)
theorem Dy{n:Nat}(x:Option ByteArray):aw (n+1) (.leaf x)=bP x:=rfl
theorem cP{n:Nat}(x:ByteArray)(q:Pn n):aw (n+1) (.loop x q)=⟨2,x,dh,0,0⟩::aw n q:=rfl
theorem bH{n:Nat}(t:Tk)(l:List (Br (Pn n))):aw (n+1) (.cV t l)=⟨t.op,t.a,t.b,(l.length:Int),0⟩::aT (aw n) l:=rfl
def nF(a b:Nd):Bool:=a.op==b.op&&a.name.toList==b.name.toList&&a.peer.toList==b.peer.toList&&a.many==b.many&&a.sort==b.sort
def fu:List Nd→List Nd→Bool|[],[]=>true|a::l,b::r=>nF a b&&fu l r|_,_=>false
def gI{α:Type}(t:ByteArray):List (Br α)→Option Nat|[]=>none|b::r=>if b.l.toList==t.toList then some 0 else(gI t r).map (·+1)
def bQ{α:Type}(mg:α→α→Option α):List (Br α)→List (Br α)→Option (List (Br α))|j,[]=>some j|j,d::ds=>match gI d.l j with|none=>bQ mg (j++[d]) ds|some i=>match j[i]? with|none=>none|some b=>match mg b.p d.p with|none=>none|some q=>if b.s==d.s then bQ mg (j.set i ⟨b.l,b.s,q⟩) ds else none
def jW{n:Nat}(p:Pn (n+1)):Option (ByteArray×List (Br (Pn n))):=p.by (fun _=>none) (fun _ _=>none) (fun t l=>if t.op==6 then some (t.b,l)else none)
def aS:(n:Nat)→Pn n→Pn n→Option (Pn n)|0,x,y=>if fu (aw 0 x) (aw 0 y)then some x else none|n+1,x,y=>if fu (aw (n+1) x) (aw (n+1) y)then some x else match jW x,jW y with|some (a,j),some (b,ds)=>if a.toList==b.toList then match bQ (aS n) j ds with|some l=>if l.length≤4 then some (.cV ⟨6,dh,a⟩ l)else none|none=>none else none|_,_=>none
def bD{α:Type}(mg:α→α→Option α):α→List (Br α)→Option α|x,[]=>some x|x,b::r=>match mg x b.p with|none=>none|some q=>bD mg q r
def dk(role:ByteArray)(l:List Nd):Bool:=l.any fun n=>n.op==3&&(n.name.toList==role.toList||n.peer.toList==role.toList)
def bY:List ByteArray→List Nd→Bool|_,[]=>true|ns,n::l=>if n.op==2 then bY (ns++[n.name]) l else if n.op==1&&!b8 ns n.name then false else bY ns l
def jY(role:ByteArray)(l:List Nd):Bool:=!dk role l&&bY [] l
def mN:(n:Nat)→Pn n→Pn (n+1)|0,x=>.leaf x|n+1,p=>p.by (fun x=>.leaf x) (fun x q=>.loop x (mN n q)) (fun t l=>.cV t (l.map fun b=>⟨b.l,b.s,mN n b.p⟩))
def bj{α:Type}(f:α→Option α):List (Br α)→Option (List (Br α))|[]=>some []|b::l=>match f b.p with|none=>none|some q=>match bj f l with|none=>none|some r=>some (⟨b.l,b.s,q⟩::r)
def bc(role:ByteArray):(n:Nat)→Pn n→Option (Pn n)|0,x=>some x|n+1,p=>p.by (fun x=>some (.leaf x)) (fun x q=>if jY role (aw (n+1) (.loop x q))then some (.leaf none)else(bc role n q).map (Pn.loop x)) (fun t l=>match bj (bc role n) l with|none=>none|some r=>if role.toList==t.a.toList then some (.cV ⟨5,dh,t.b⟩ r)else if role.toList==t.b.toList then some (.cV ⟨6,dh,t.a⟩ r)else match r with|[]=>none|c::r=>(bD (aS n) c.p r).map (mN n))
theorem yK:∀(n:Nat)(p:Pn n),aw (n+1) (mN n p)=aw n p:=by
 intro n;induction n with
  |zero=>intro p;rfl|succ n ih=>
   refine Pn.cases (fun x=>rfl) (fun x q=>?_) (fun t l=>?_);·show(⟨2,x,dh,0,0⟩:Nd)::aw (n+1) (mN n q)=_;rw[ih q];rfl
   ·show(⟨t.op,t.a,t.b,((l.map fun b=>(⟨b.l,b.s,mN n b.p⟩:Br (Pn (n+1)))).length:Int),0⟩:Nd)::aT (aw (n+1)) (l.map fun b=>⟨b.l,b.s,mN n b.p⟩)=_;rw[List.length_map,bH,aT,aT,List.flatMap_map];congr 2;funext b;rw[ih b.p]
theorem k6{t:ByteArray}(h:(t.toList==[])=true):t=dh:=by have j:=beq_iff_eq.1 h;rw[Go.ByteArray.toList_eq]at j;apply ByteArray.ext;exact Array.ext' j
def bX:(n:Nat)→Pn n→Prop|0,_=>True|n+1,p=>p.by (fun _=>True) (fun _ q=>bX n q) (fun t l=>t.op=3∧(t.a.toList==t.b.toList)=false∧1≤l.length∧l.length≤4∧∀b∈l,bX n b.p)
theorem rp{go:List Nd→Option (List Nd)}{n:Nat}(I:∀l r,go l=some r→∃p:Pn n,l=aw n p++r∧bX n p):∀(m:Nat)(ls:List ByteArray)(l r:List Nd),bw go m ls l=some r→∃C:List (Br (Pn n)),C.length=m∧l=aT (aw n) C++r∧∀b∈C,bX n b.p
 |0,ls,l,r,h=>by rw[bw]at h;injection h with h;subst h;exact⟨[],rfl,rfl,fun b j=>by cases j⟩|m+1,ls,[],r,h=>by cases h|m+1,ls,c::l,r,h=>by
  rw[bw]at h;split at h;·
   rename_i U;split at h;·cases h
   ·rename_i r1 T;obtain⟨p,e,hp⟩:=I l r1 T;obtain⟨C,hl,e2,R⟩:=rp I m _ _ _ h;obtain⟨op,name,J,many,sort⟩:=c;simp only[eD,Bool.and_eq_true,beq_iff_eq]at U;obtain⟨⟨⟨⟨⟨h1,h2⟩,h3⟩,-⟩,-⟩,-⟩:=U;have P:J=dh:=k6 (by simpa using h2);subst h1;subst P;subst h3;refine⟨⟨name,sort,p⟩::C,by rw[List.length_cons,hl],?_,?_⟩;·rw[e,e2,cA,List.cons_append,List.append_assoc]
    ·intro b j;rw[List.mem_cons]at j;rcases j with rfl|j;·exact hp
     ·exact R b j
  ·cases h
theorem ru{f:Nat}{st l r:List Nd}{n:Nd}(h:ahead (bA false) f st (n::l)=some r)(R:n.op=0∨n.op=1):∃x,n::l=bP x++r:=by
 obtain⟨op,name,j,many,sort⟩:=n;rcases R with P|h1;·
  rw[cQ P]at h;split at h;·rename_i J;injection h with h;subst h;dsimp only at P;subst P;simp only[gX,Bool.and_eq_true,beq_iff_eq]at J;obtain⟨⟨⟨⟨-,T⟩,U⟩,h3⟩,h4⟩:=J;have I:name=dh:=k6 (by simpa using T);have C:j=dh:=k6 (by simpa using U);subst I;subst C;subst h3;subst h4;exact⟨none,rfl⟩
  ·cases h
 ·rw[du h1]at h;split at h;·rename_i J;injection h with h;subst h;dsimp only at h1;subst h1;simp only[mL,Bool.and_eq_true,beq_iff_eq]at J;obtain⟨⟨⟨⟨-,U⟩,h3⟩,h4⟩,-⟩:=J;have C:j=dh:=k6 (by simpa using U);subst C;subst h3;subst h4;exact⟨some name,rfl⟩
  ·cases h
theorem Iy:∀(f:Nat)(st l r:List Nd),ahead (bA false) f st l=some r→∃p:Pn f,l=aw f p++r∧bX f p:=by
 intro f;induction f with
  |zero=>
   intro st l r h;cases l with
    |nil=>cases h|cons n l=>
     by_cases j:n.op=0∨n.op=1;·obtain⟨x,e⟩:=ru h j;exact⟨x,e,trivial⟩
     ·rw[eC (fun h=>j (.inl h)) (fun h=>j (.inr h))]at h;cases h
  |succ f ih=>
   intro st l r h;cases l with
    |nil=>cases h|cons n l=>
     by_cases j:n.op=0∨n.op=1;·obtain⟨x,e⟩:=ru h j;exact⟨.leaf x,e,trivial⟩
     ·obtain⟨op,name,C,many,sort⟩:=n;have h0:op≠0:=fun h=>j (.inl h);have h1:op≠1:=fun h=>j (.inr h);by_cases I:op=2;·
       rw[dj I]at h;split at h;·rename_i J;subst I;simp only[iD,Bool.and_eq_true,beq_iff_eq]at J;obtain⟨⟨⟨⟨⟨-,I⟩,R⟩,T⟩,-⟩,-⟩:=J;have P:C=dh:=k6 (by simpa using I);subst P;subst R;subst T;obtain⟨p,e,hp⟩:=ih _ l r h;exact⟨.loop name p,by rw[cP,e];rfl,hp⟩
       ·cases h
      ·rw[eP h0 h1 I]at h;split at h;·
        rename_i J;simp only[bA,jg,Bool.and_eq_true,decide_eq_true_eq,beq_iff_eq,Bool.not_eq_true',Bool.false_eq_true,if_false]at J;obtain⟨⟨⟨-,hm⟩,T⟩,⟨R,-⟩,ab⟩:=J;dsimp only at h;obtain⟨cs,hl,e,U⟩:=rp (fun l r=>ih _ l r) _ _ _ _ h;subst R;subst T;have hM:many=(cs.length:Int):=by rw[hl];omega
        subst hM;exact⟨.cV ⟨3,name,C⟩ cs,by rw[bH,e];rfl,rfl,ab,by omega,by omega,U⟩
       ·cases h
theorem ij(J:Int)(ab:J=3∨J=5∨J=6)(f:Nat)(az:∀g,f=g+1→iW g)(st:List Nd)(name j:ByteArray)(many l:Int)(U:List Nd)(p:Value)(w:World)(B b o cap:Nat)(ac:st.length+f=10)(ok:∀x∈⟨J,name,j,many,l⟩::U,x.ok)(hB:B≤w.heap.size)(al:b<B)(an:(⟨J,name,j,many,l⟩::U).length≤cap)(ao:cap≤9223372036854775807∧U.length<4294967296)(a5:cap≠1)(R:cO w b o (⟨J,name,j,many,l⟩::U))(hp:bE w p st):Calls Tryz.prog 240 #[.slice (some ⟨b,o,none⟩) (⟨J,name,j,many,l⟩::U:List Nd).length cap,p] w fun e w'=>Told w' B e (ahead ei f st (⟨J,name,j,many,l⟩::U))∧Below w.heap.size w w':=by
 have HP:=aa hp;have HO:=aa ok;have HN:=aa (ok ⟨J,name,j,many,l⟩ (by simp));have HL:=aa ac;have HB:=aa hB;have a6:=aa al;have HR:=aa R;have a7:=aa an;have a8:=aa ao;obtain⟨u,rfl⟩:=hp.shape;have ay:=an;simp only[List.length_cons]at an;have T:=R;obtain⟨⟨c0,c1,c2,c3,c4⟩,-⟩:=R;dsimp only at c0 c1 c2 c3 c4;have a9:b<w.heap.size:=World.block_lt_of_cell? w _ c0;have hz:((U.length:Int)+1==0)=false:=beq_eq_false_iff_ne.2 (by omega);have a4:Hid (bF w B (.slice (some ⟨b,o+5,none⟩) U.length (cap-1)) U):=aa (bF.tail al T ay ao _ (fun _=>rfl));clear T ay;clear ok ac hB al hp ao;have aq:=aa (show lV st=(f==0)by rw[lV];have:=HL.out;cases f<;>simp<;>omega);obtain⟨rb,aL⟩:∃rb,ei ⟨J,name,j,many,l⟩=rb:=⟨_,rfl⟩;have P:=aa aL;have ah:=aa (fun W=>su ⟨J,name,j,many,l⟩ W HN.out ab);have af:=aa (boxed w ⟨J,name,j,many,l⟩ 156);have a2:=aa (fun v W=>qp st v ⟨J,name,j,many,l⟩ W);clear aL;cases rb;·
  rcases ab with rfl|rfl|rfl;all_goals
   go_enter Tryz.func240,Tryz.ntmps240;go_wp2_with fail;go_region;go_wp2_with(go_at_call 269;refine(ah.out _).mono ?_;rintro e w1⟨rfl,C⟩;rw[P.out];obtain⟨d0,d1,d2,d3,d4⟩:=cJ.carry (B:=_) af.out (by simp) C;dsimp only at d0 d1 d2 d3 d4;have aM:w.heap.size<w1.heap.size:=(by have:=C.size;simp at this;omega);have I:Hid (Below w.heap.size w w1):=aa ((aE _ _).drew.trans (C.mono (by simp)));clear C);go_ret2;refine dU I.out ?_;cases f;·exact eC (by simp) (by simp)
   ·rw[eP (by simp) (by simp) (by simp),P.out];rfl
 ·cases f with|zero=>rcases ab with rfl|rfl|rfl;all_goals go_enter Tryz.func240,Tryz.ntmps240;go_wp2_with fail;go_region;go_wp2_with(first|(go_at_call 269;refine(ah.out _).mono ?_;rintro e w1⟨rfl,C⟩;rw[P.out];obtain⟨d0,d1,d2,d3,d4⟩:=cJ.carry (B:=_) af.out (by simp) C;dsimp only at d0 d1 d2 d3 d4;have aM:w.heap.size<w1.heap.size:=(by have:=C.size;simp at this;omega);have I:Hid (Below w.heap.size w w1):=aa ((aE _ _).drew.trans (C.mono (by simp)));clear C)|(go_at_call 267;refine(lq st _ _ (bE.carry I.out HP.out)).mono ?_;rintro e w'⟨rfl,rfl⟩;rw[aq.out,show((0:Nat)==0)=true from rfl]));go_ret2;refine dU I.out ?_;exact eC (by simp) (by simp)|succ f=>have HI:=aa (az f rfl);have a0:=aa (pw f HI.out ⟨J,name,j,many,l⟩ st U);clear az;rcases ab with rfl|rfl|rfl;all_goals have a1:Hid (1≤many∧many≤4):=aa (by have:=P.out;simp[ei,jg]at this;exact this.1.1.2);go_enter Tryz.func240,Tryz.ntmps240;go_wp2_with fail;go_region;go_wp2_with(first|(go_at_call 269;refine(ah.out _).mono ?_;rintro e w1⟨rfl,C⟩;rw[P.out];obtain⟨d0,d1,d2,d3,d4⟩:=cJ.carry (B:=_) af.out (by simp) C;dsimp only at d0 d1 d2 d3 d4;have aM:w.heap.size<w1.heap.size:=(by have:=C.size;simp at this;omega);have I:Hid (Below w.heap.size w w1):=aa ((aE _ _).drew.trans (C.mono (by simp)));clear C)|(go_at_call 267;refine(lq st _ _ (bE.carry I.out HP.out)).mono ?_;rintro e w'⟨rfl,rfl⟩;rw[aq.out,show(f+1==0)=false from rfl]));go_wp2_with(first|(go_at_call 268;refine(a2.out _ _ (bE.carry I.out HP.out) (by have:=HL.out;omega)).mono ?_;rintro e w2⟨q,rfl,hq,av⟩;obtain⟨uq,rfl⟩:=hq.shape;have HQ:=aa hq;have ad:=aa (I.out.trans (av.mono I.out.size));clear hq av)|(go_at_call 270;refine(a0.out _ _ _ B (by have:=HL.out;simp;omega) a1.out (fun x hx=>HO.out x (List.mem_cons_of_mem _ hx)) (Nat.le_trans HB.out ad.out.size) (a4.out.carry (ad.out.mono HB.out)) HQ.out).mono ?_;rintro e w3⟨⟨v3,rfl,aN⟩,ax⟩;have a3:=aa aN;have aR:=aa ax;clear aN ax));go_ret2;exact qw ⟨v3,rfl,a3.out⟩ ad.out aR.out (by rw[eP (by simp) (by simp) (by simp),P.out];rfl)
theorem ig(J:Int)(T:J=3∨J=5∨J=6)(f:Nat)(ay:∀g,f=g+1→iW g)(st:List Nd)(name j:ByteArray)(many l:Int)(R:List Nd)(p:Value)(w:World)(B b o cap:Nat)(U:st.length+f=10)(ok:∀x∈⟨J,name,j,many,l⟩::R,x.ok)(hB:B≤w.heap.size)(ao:b<B)(aq:(⟨J,name,j,many,l⟩::R).length≤cap)(av:cap≤9223372036854775807∧R.length<4294967296)(ax:cap=1)(ab:cO w b o (⟨J,name,j,many,l⟩::R))(hp:bE w p st):Calls Tryz.prog 240 #[.slice (some ⟨b,o,none⟩) (⟨J,name,j,many,l⟩::R:List Nd).length cap,p] w fun e w'=>Told w' B e (ahead ei f st (⟨J,name,j,many,l⟩::R))∧Below w.heap.size w w':=by
 have HP:=aa hp;have HO:=aa ok;have HN:=aa (ok ⟨J,name,j,many,l⟩ (by simp));have HL:=aa U;have HB:=aa hB;have a5:=aa ao;have HR:=aa ab;have a6:=aa aq;have a7:=aa av;obtain⟨u,rfl⟩:=hp.shape;simp only[List.length_cons]at aq;obtain⟨⟨c0,c1,c2,c3,c4⟩,-⟩:=ab;dsimp only at c0 c1 c2 c3 c4;have a8:b<w.heap.size:=World.block_lt_of_cell? w _ c0;have hz:((R.length:Int)+1==0)=false:=beq_eq_false_iff_ne.2 (by omega);have a0:Hid (R.length=0):=aa (by omega);have a4:Hid (bF w B (.slice (some ⟨b,o,none⟩) 0 0) R):=aa (by rw[List.length_eq_zero_iff.1 a0.out];exact⟨_,_,rfl,Nat.le_refl _,by simp,fun h=>absurd rfl h⟩);subst ax;clear ok U hB ao hp av;have ah:=aa (show lV st=(f==0)by rw[lV];have:=HL.out;cases f<;>simp<;>omega);obtain⟨rb,az⟩:∃rb,ei ⟨J,name,j,many,l⟩=rb:=⟨_,rfl⟩;have P:=aa az;have af:=aa (fun W=>su ⟨J,name,j,many,l⟩ W HN.out T);have ad:=aa (boxed w ⟨J,name,j,many,l⟩ 156);have a2:=aa (fun v W=>qp st v ⟨J,name,j,many,l⟩ W);clear az;cases rb;·
  rcases T with rfl|rfl|rfl;all_goals
   go_enter Tryz.func240,Tryz.ntmps240;go_wp2_with fail;go_region;go_wp2_with(go_at_call 269;refine(af.out _).mono ?_;rintro e w1⟨rfl,C⟩;rw[P.out];obtain⟨d0,d1,d2,d3,d4⟩:=cJ.carry (B:=_) ad.out (by simp) C;dsimp only at d0 d1 d2 d3 d4;have aL:w.heap.size<w1.heap.size:=(by have:=C.size;simp at this;omega);have I:Hid (Below w.heap.size w w1):=aa ((aE _ _).drew.trans (C.mono (by simp)));clear C);go_ret2;refine dU I.out ?_;cases f;·exact eC (by simp) (by simp)
   ·rw[eP (by simp) (by simp) (by simp),P.out];rfl
 ·cases f with|zero=>rcases T with rfl|rfl|rfl;all_goals go_enter Tryz.func240,Tryz.ntmps240;go_wp2_with fail;go_region;go_wp2_with(first|(go_at_call 269;refine(af.out _).mono ?_;rintro e w1⟨rfl,C⟩;rw[P.out];obtain⟨d0,d1,d2,d3,d4⟩:=cJ.carry (B:=_) ad.out (by simp) C;dsimp only at d0 d1 d2 d3 d4;have aL:w.heap.size<w1.heap.size:=(by have:=C.size;simp at this;omega);have I:Hid (Below w.heap.size w w1):=aa ((aE _ _).drew.trans (C.mono (by simp)));clear C)|(go_at_call 267;refine(lq st _ _ (bE.carry I.out HP.out)).mono ?_;rintro e w'⟨rfl,rfl⟩;rw[ah.out,show((0:Nat)==0)=true from rfl]));go_ret2;refine dU I.out ?_;exact eC (by simp) (by simp)|succ f=>have HI:=aa (ay f rfl);have aR:=aa (pw f HI.out ⟨J,name,j,many,l⟩ st R);clear ay;rcases T with rfl|rfl|rfl;all_goals have a1:Hid (1≤many∧many≤4):=aa (by have:=P.out;simp[ei,jg]at this;exact this.1.1.2);go_enter Tryz.func240,Tryz.ntmps240;go_wp2_with fail;go_region;go_wp2_with(first|(go_at_call 269;refine(af.out _).mono ?_;rintro e w1⟨rfl,C⟩;rw[P.out];obtain⟨d0,d1,d2,d3,d4⟩:=cJ.carry (B:=_) ad.out (by simp) C;dsimp only at d0 d1 d2 d3 d4;have aL:w.heap.size<w1.heap.size:=(by have:=C.size;simp at this;omega);have I:Hid (Below w.heap.size w w1):=aa ((aE _ _).drew.trans (C.mono (by simp)));clear C)|(go_at_call 267;refine(lq st _ _ (bE.carry I.out HP.out)).mono ?_;rintro e w'⟨rfl,rfl⟩;rw[ah.out,show(f+1==0)=false from rfl]));go_wp2_with(first|(go_at_call 268;refine(a2.out _ _ (bE.carry I.out HP.out) (by have:=HL.out;omega)).mono ?_;rintro e w2⟨q,rfl,hq,al⟩;obtain⟨uq,rfl⟩:=hq.shape;have HQ:=aa hq;have ac:=aa (I.out.trans (al.mono I.out.size));clear hq al)|(go_at_call 270;refine(aR.out _ _ _ B (by have:=HL.out;simp;omega) a1.out (fun x hx=>HO.out x (List.mem_cons_of_mem _ hx)) (Nat.le_trans HB.out ac.out.size) (a4.out.carry (ac.out.mono HB.out)) HQ.out).mono ?_;rintro e w3⟨⟨v3,rfl,aM⟩,an⟩;have a3:=aa aM;have aN:=aa an;clear aM an));go_ret2;exact qw ⟨v3,rfl,a3.out⟩ ac.out aN.out (by rw[eP (by simp) (by simp) (by simp),P.out];rfl)
theorem fh{w w':World}{row:Option Nat}(C:w.grownBy w' row)(a:Addr)(j:a.block<w.heap.size)(l:some a.block≠row):w'.cell? a=w.cell? a:=World.cell?_of_block (C.block a.block j l)
theorem eW{P:Program}{U:Array Oper}{o:Oper}{a:Act}{w:World}{K:Act→World→Prop}{Q:Exit→Act→World→Prop}{E:Prop}(hg:o.guard=none)(s2:Operand)(v2:Value)(_:a.eval s2=v2)(s x:Operand)(t:TypeId)(T:o.op=Op.call {callee:=Callee.builtin Builtin.append,args:=#[s,x],argTypes:=#[t,t]})(base:Nat)(e:TypeId)(i:TypeInfo)(z:Value)(size bytes:Nat)(h1:P.underlying t=some (.slice e))(h2:P.info? e=some i)(h3:i.zero=some z)(h4:i.size=size)(h5:i.bytes=bytes)(h6:z.cells.size=size)(h7:0<size)(v:Value)(n:Nat)(xs:List Value)(hs:a.eval s=v)(I:w.ownsRow base e size v n xs)(J:Addr)(m c:Nat)(l:List Value)(hx:a.eval x=.slice (some J) m c)(hn:l.length=m*size)(hc:∀j u,l[j]?=some u→w.cell? (J.add j)=some u)(R:∀u∈l,u.oneCell'=true)(b1:n+m≤maxLen)(b2:(n+m)*bytes≤140737488355328)(C:base≤w.heap.size)(hK:∀v' w',w'.ownsRow base e size v' (n+m) (xs++l)→w.grownBy w' v.ownBlock→K (a.put o.dst v') w'):if Region.wanted o (yielded U a.tmps)=true then Oper.wp P o a w K Q else E:=dm hg s x t T base e i z size bytes h1 h2 h3 h4 h5 h6 h7 v n xs hs I J m c l hx hn hc R b1 b2 C hK
theorem fT(ls:List ByteArray):∀u∈ls.map Value.string,u.oneCell'=true:=by intro u hu;obtain⟨s,_,rfl⟩:=List.mem_map.1 hu;rfl
theorem lN{w I:World}{l C:Nat}{ls:List ByteArray}(U:∀i(h:i<ls.length),w.cell? ⟨l,C+i,none⟩=some (.string ls[i]))(T:Below w.heap.size w I)(j:Nat)(u:Value)(h:(ls.map Value.string)[j]?=some u):I.cell? ((⟨l,C,none⟩:Addr).add j)=some u:=by
 rw[List.getElem?_map]at h;obtain⟨s,hs,rfl⟩:=Option.map_eq_some_iff.1 h;obtain⟨hj,rfl⟩:=List.getElem?_eq_some_iff.1 hs;have P:=U j hj;have R:I.cell? ⟨l,C+j,none⟩=some (.string ls[j]):=(T.cell (p:=⟨l,_,none⟩) (World.block_lt_of_cell? w _ P)).trans P;have e:(⟨l,C,none⟩:Addr).add j=⟨l,C+j,none⟩:=by unfold Addr.add;by_cases J:j=0<;>simp[J]
 rw[e];exact R
theorem uY(x:Int)(j:-1000≤x)(l:x≤8589934592):IntKind.i64.wrap x=x:=by rw[IntKind.wrap_i64];omega
theorem dg(W:World)(v:Value)(t:TypeId)(k:Nat)(h:k=W.heap.size):(W.alloc (.cells #[v] t)).cell? ⟨k,0,none⟩=some v:=by subst h;simp
theorem iw(W:World)(o:Obj)(k:Nat)(h:k<W.heap.size):(W.alloc o).cell? ⟨k,0,none⟩=W.cell? ⟨k,0,none⟩:=World.cell?_alloc_past o k 0 h
theorem cG(W:World)(o:Obj)(k:Nat)(h:k=W.heap.size):(W.alloc o).heap[k]?=some o:=by subst h;show(W.heap.push o)[W.heap.size]?=_;simp
theorem eT(W:World)(o:Obj)(k:Nat)(h:k<W.heap.size):(W.alloc o).heap[k]?=W.heap[k]?:=Below.heap_alloc W o k h
theorem dE(W:World)(base e g:Nat)(j:base≤g)(h:W.heap[g]?=some (.cells #[] e (0,0))):W.ownsRow base e 1 (.slice (some ⟨g,0,none⟩) 0 0) 0 []:=⟨rfl,.inr ⟨g,0,#[],rfl,j,h,Nat.le_refl _,by unfold maxLen;omega,rfl,rfl⟩⟩
theorem fR{W:World}{C:Addr}{v:Value}(h:W.cell? C=some v):∀j u,([v]:List Value)[j]?=some u→W.cell? (C.add j)=some u:=by intro j u l;match j,l with|0,l=>simp at l;subst l;simpa[Addr.add]using h
theorem one_cell(s:ByteArray):∀u∈[Value.string s],u.oneCell'=true:=by intro u hu;simp at hu;subst hu;rfl
theorem xx(w:World)(n:Nd)(t:TypeId):cJ (w.alloc (.cells #[.int .i64 n.op,.string n.name,.string n.peer,.int .i64 n.many,.int .i64 n.sort] t)) w.heap.size 0 n:=by simp[cJ]
theorem tO{n:Nd}{st:List Nd}(h:n.op≠2):aU (n::st)=aU st:=by simp[aU,h]
end Go.Proofs.YtdiiiijkhpdcbaaGreatDoor
