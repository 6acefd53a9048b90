import Derived.Test.YtlbcnmcfljaijaaGreatQN20
import Derived.Test.YtlbcnmcfljaijaaGreatQN00
import Derived.Test.YtlbcnmcfljaijaaGreatQN08
import Derived.Maps.AppendAt
import Derived.Deep.QuietTactic
import Derived.BigQuiet
namespace Go.Proofs.YtlbcnmcfljaijaaGreat
open Go.RowKit
set_option linter.unusedSimpArgs false
set_option linter.unusedVariables false
set_option maxHeartbeats 1000000
set_option maxRecDepth 100000
def de:List (List ByteArray)→List ByteArray|[]=>[]|[t]=>t|t::u::j=>t++ba [44]::de (u::j)
def bc(go:List Nd→List ByteArray×List Nd):Nat→List Nd→List (List ByteArray)×List Nd|0,l=>([],l)|_+1,[]=>([],[])|m+1,c::l=>((qi c++(go l).1)::(bc go m (go l).2).1,(bc go m (go l).2).2)
def cF:Nat→List Nd→List ByteArray×List Nd|_,[]=>([],[])|0,n::l=>if n.op==1 then([n.name],l)else([ba [101,110,100]],l)|f+1,n::l=>if n.op==0 then([ba [101,110,100]],l)else if n.op==1 then([n.name],l)else if n.op==2 then(fO n++(cF f l).1,(cF f l).2)else(fO n++de (bc (cF f) n.many.toNat l).1++[ba [125]],(bc (cF f) n.many.toNat l).2)
def nH(j:List ByteArray):ByteArray:=j.foldr (·++·) ByteArray.empty
theorem jP:nH []=ByteArray.empty:=rfl
theorem fZ(a:ByteArray)(j:List ByteArray):nH (a::j)=a++nH j:=rfl
theorem oL(a b:List ByteArray):nH (a++b)=nH a++nH b:=by induction a with|nil=>rw[List.nil_append,jP,ByteArray.empty_append]|cons x a ih=>rw[List.cons_append,fZ,ih,fZ,ByteArray.append_assoc]
theorem oM(a:ByteArray):nH [a]=a:=by rw[fZ,jP,ByteArray.append_empty]
theorem xx:∀j:List (List ByteArray),dV (j.map nH)=nH (de j)|[]=>rfl|[t]=>rfl|t::u::j=>by have ih:=xx (u::j);rw[List.map_cons,List.map_cons,dV,de,oL,fZ,←ih,List.map_cons,ByteArray.append_assoc]
theorem wM{tf:List Nd→ByteArray×List Nd}{j:List Nd→List ByteArray×List Nd}(h:∀l,tf l=(nH (j l).1,(j l).2)):∀(m:Nat)(l:List Nd),bW tf m l=((bc j m l).1.map nH,(bc j m l).2)|0,l=>rfl|_+1,[]=>rfl|m+1,c::l=>by rw[bW,bc,h l,wM h m];simp only[List.map_cons,Prod.mk.injEq,List.cons.injEq,and_true];rw[iW,oL];simp only[qi,fZ,jP,ByteArray.append_empty];rw[show ba [41,46]=ba [41]++ba [46]from rfl];simp only[ByteArray.append_assoc]
theorem Fm:∀(f:Nat)(l:List Nd),bH f l=(nH (cF f l).1,(cF f l).2):=by
 intro f;induction f with
  |zero=>
   intro l;cases l with
    |nil=>rfl|cons n l=>
     rw[bH,cF];split;·rw[oM]
     ·rw[oM]
  |succ f ih=>
   intro l;cases l with
    |nil=>rfl|cons n l=>
     rw[bH,cF];split;·rw[oM]
     ·rename_i J;split;·rw[oM]
      ·rename_i P;split;·rename_i j;rw[beq_iff_eq]at j;rw[ih l];simp only[Prod.mk.injEq,and_true];rw[oL,fO,if_neg (by omega),if_neg (by omega),if_pos j];simp only[fZ,jP,ByteArray.append_empty,ByteArray.append_assoc]
       ·rename_i j;rw[beq_iff_eq]at J P j;rw[wM ih];simp only[Prod.mk.injEq,and_true];rw[oL,oL,oM,xx,fO,if_neg J,if_neg P,if_neg j,kG];by_cases C:n.op=5;·rw[if_pos (by rw[beq_iff_eq];exact C),if_pos C];simp only[fZ,jP,ByteArray.append_empty,ByteArray.append_assoc]
        ·rw[if_neg (by rw[beq_iff_eq];exact C),if_neg C];by_cases I:n.op=6;·rw[if_pos (by rw[beq_iff_eq];exact I),if_pos I];simp only[fZ,jP,ByteArray.append_empty,ByteArray.append_assoc]
         ·rw[if_neg (by rw[beq_iff_eq];exact I),if_neg I];simp only[fZ,jP,ByteArray.append_empty,ByteArray.append_assoc]
theorem cS(t:List UInt8):(ba t).toList=t:=by rw[Go.ByteArray.toList_eq];simp[ba]
theorem qh{t u:List UInt8}(h:u≠t)(j:List ByteArray):vQ t (ba u::j)=none:=by rw[vQ,if_neg (by rw[beq_iff_eq,cS];exact h)]
def Jh(j:List ByteArray):Prop:=j=[]∨(∃r,j=ba [44]::r)∨∃r,j=ba [125]::r
theorem zo{j:List ByteArray}(h:Jh j){t:List UInt8}(l:t≠[44])(C:t≠[125]):vQ t j=none:=by
 rcases h with rfl|⟨r,rfl⟩|⟨r,rfl⟩;·rfl
 ·exact qh (Ne.symm l) _
 ·exact qh (Ne.symm C) _
theorem eZ{x:ByteArray}(h:bJ x=true):(x.toList==[101,110,100])=false∧(x.toList==[114,101,99])=false:=by simp only[bJ,Bool.and_eq_true,Bool.not_eq_true']at h;exact h.2
theorem Fe(j:List ByteArray)(L:List Nd)(op:List Nat):gZ ⟨0,ba [101,110,100]::j,L,op⟩=.inr ⟨2,j,L++[⟨0,bt,bt,0,0⟩],op⟩:=by rw[lB rfl];unfold lA;rw[if_pos (by rw[beq_iff_eq];exact cS _)];rfl
theorem Ff{x:ByteArray}(C:bJ x=true){l:List ByteArray}(j:Jh l)(L:List Nd)(op:List Nat):gZ ⟨0,x::l,L,op⟩=.inr ⟨2,l,L++[⟨1,x,bt,0,0⟩],op⟩:=by rw[lB rfl];unfold lA;simp only[xi,List.headD_cons,List.tail_cons,(eZ C).1,(eZ C).2,Bool.false_eq_true,if_false,zo j (t:=[62]) (by decide) (by decide),zo j (t:=[33]) (by decide) (by decide),zo j (t:=[63]) (by decide) (by decide)]
theorem JB{x:ByteArray}(j:List ByteArray)(L:List Nd)(op:List Nat):gZ ⟨0,ba [114,101,99]::ba [32]::x::ba [46]::j,L,op⟩=.inr ⟨0,j,L++[⟨2,x,bt,0,0⟩],op⟩:=by
 rw[lB rfl];unfold lA;have e1:((ba [114,101,99]).toList==[101,110,100])=false:=by rw[cS];decide
 have e2:((ba [114,101,99]).toList==[114,101,99])=true:=by rw[cS];decide
 simp only[xi,List.headD_cons,List.tail_cons,e1,e2,Bool.false_eq_true,if_false,if_true,oA]
theorem Hn{n:Nd}(h:(n.op=3∧bJ n.name=true)∨(n.op=5∧n.name=bt∧bJ n.peer=true)∨(n.op=6∧n.name=bt∧bJ n.peer=true))(C:List ByteArray)(L:List Nd)(op:List Nat):gZ ⟨0,fO n++C,L,op⟩=.inr ⟨1,C,L++[⟨n.op,n.name,n.peer,0,0⟩],L.length::op⟩:=by
 rw[lB rfl];rcases h with⟨h,j⟩|⟨h,l,j⟩|⟨h,l,j⟩;·
  have e:fO n=[n.name,ba [62],n.peer,ba [123]]:=by unfold fO;rw[if_neg (by omega),if_neg (by omega),if_neg (by omega),if_neg (by omega),if_neg (by omega)]
  rw[e];unfold lA;simp only[h,xi,List.cons_append,List.nil_append,List.headD_cons,List.tail_cons,(eZ j).1,(eZ j).2,Bool.false_eq_true,if_false,oA,mI]
 ·have e:fO n=[n.peer,ba [33],ba [123]]:=by unfold fO;rw[if_neg (by omega),if_neg (by omega),if_neg (by omega),if_pos h]
  rw[e];unfold lA;simp only[h,l,xi,List.cons_append,List.nil_append,List.headD_cons,List.tail_cons,(eZ j).1,(eZ j).2,Bool.false_eq_true,if_false,oA,mI,qh (show([33]:List UInt8)≠[62]by decide)]
 ·have e:fO n=[n.peer,ba [63],ba [123]]:=by unfold fO;rw[if_neg (by omega),if_neg (by omega),if_neg (by omega),if_neg (by omega),if_pos h]
  rw[e];unfold lA;simp only[h,l,xi,List.cons_append,List.nil_append,List.headD_cons,List.tail_cons,(eZ j).1,(eZ j).2,Bool.false_eq_true,if_false,oA,mI,qh (show([63]:List UInt8)≠[62]by decide),qh (show([63]:List UInt8)≠[33]by decide)]
theorem CB{s:Int}(h:jF s=true):E5 (eV s)=s:=by
 simp only[jF,Bool.and_eq_true,decide_eq_true_eq]at h;have:s=0∨s=1∨s=2:=by omega
 rcases this with rfl|rfl|rfl<;>(unfold eV E5;simp[cS])
theorem Bd{c:Nd}(h:cI c=true)(I:List ByteArray)(L:List Nd)(i:Nat)(op:List Nat):gZ ⟨1,qi c++I,L,i::op⟩=.inr ⟨0,I,vo L i++[c],i::op⟩:=by rw[step_label rfl];unfold vz qi;simp only[cI,Bool.and_eq_true,beq_iff_eq]at h;obtain⟨⟨⟨⟨j,l⟩,C⟩,P⟩,J⟩:=h;simp only[xi,List.cons_append,List.nil_append,List.headD_cons,List.tail_cons,oA,CB J];obtain⟨o,x,y,m,s⟩:=c;simp only at j l C;subst j C;have:y=bt:=iw (by rw[l];rw[Go.ByteArray.toList_eq];rfl);rw[this]
theorem Fc(j:List ByteArray)(L:List Nd)(i:Nat)(op:List Nat):gZ ⟨2,ba [44]::j,L,i::op⟩=.inr ⟨1,j,L,i::op⟩:=by rw[qU (by simp) (by simp),oJ,oA]
theorem Fb(j:List ByteArray)(L:List Nd)(i:Nat)(op:List Nat):gZ ⟨2,ba [125]::j,L,i::op⟩=.inr ⟨2,j,L,op⟩:=by rw[qU (by simp) (by simp),oJ,qh (by decide),oA]
def jv(l:List Nd)(i k:Nat):List Nd:=l.modify i fun n=>{n with many:=n.many+(k:Int)}
theorem BD(l:List Nd)(i k:Nat):(jv l i k).length=l.length:=by simp[jv]
theorem wK(l:List Nd)(i:Nat):vo l i=jv l i 1:=by unfold vo jv;rfl
theorem BC(a b:List Nd)(i k:Nat)(h:i<a.length):jv (a++b) i k=jv a i k++b:=by
 unfold jv;apply List.ext_getElem;·simp
 ·intro j C I;rw[List.getElem_modify];by_cases l:j<a.length;·have e1:((a.modify i fun n=>{n with many:=n.many+(k:Int)})++b)[j]=(a.modify i fun n=>{n with many:=n.many+(k:Int)})[j]'(by simpa using l):=List.getElem_append_left (by simpa using l);rw[e1,List.getElem_modify,List.getElem_append_left l]
  ·have e1:((a.modify i fun n=>{n with many:=n.many+(k:Int)})++b)[j]=b[j-a.length]'(by simp at C;omega):=by rw[List.getElem_append_right (by simp;omega)];simp
   rw[e1,if_neg (by omega),List.getElem_append_right (by omega)]
theorem BB(a:List Nd)(i k m:Nat):jv (jv a i k) i m=jv a i (k+m):=by
 unfold jv;apply List.ext_getElem;·simp
 ·intro j l C;rw[List.getElem_modify,List.getElem_modify,List.getElem_modify];split;·congr 1;dsimp only;omega
  ·rfl
theorem yS(a:List Nd)(n:Nd)(k:Nat):jv (a++[n]) a.length k=a++[{n with many:=n.many+(k:Int)}]:=by
 unfold jv;apply List.ext_getElem;·simp
 ·intro j C I;rw[List.getElem_modify];by_cases l:j<a.length;·rw[if_neg (by omega),List.getElem_append_left l,List.getElem_append_left l]
  ·have:j=a.length:=by simp at C;omega
   subst this;rw[if_pos rfl];simp
def Ab(go:List Nd→Option (List Nd))(tf:List Nd→List ByteArray×List Nd):Prop:=∀l r,go l=some r→(tf l).2=r∧∃pre,l=pre++r∧(∀n∈pre,DH n)∧∀j L op,Jh j→i6 ⟨0,(tf l).1++j,L,op⟩=i6 ⟨2,j,L++pre,op⟩
theorem uc{c:Nd}(h:cI c=true):DH c:=by simp only[cI,Bool.and_eq_true,beq_iff_eq]at h;obtain⟨⟨⟨⟨j,I⟩,J⟩,l⟩,C⟩:=h;exact .inr (.inr (.inr (.inr (.inl ⟨j,l,C⟩))))
theorem Ca{go:List Nd→Option (List Nd)}{tf:List Nd→List ByteArray×List Nd}(hg:Ab go tf):∀(m:Nat)(ls:List ByteArray)(l r:List Nd),aS go (m+1) ls l=some r→(bc tf (m+1) l).2=r∧(bc tf (m+1) l).1≠[]∧∃pre,l=pre++r∧(∀n∈pre,DH n)∧∀J L i op,i<L.length→i6 ⟨1,de (bc tf (m+1) l).1++ba [125]::J,L,i::op⟩=i6 ⟨2,J,jv L i (m+1)++pre,op⟩:=by
 intro m;induction m with
  |zero=>
   intro ls l r h;cases l with
    |nil=>cases h|cons c l=>
     rw[aS]at h;split at h;·
      rename_i C;simp only[Bool.and_eq_true]at C;split at h;·cases h
      ·rename_i r' I;rw[aS]at h;injection h with h;subst h;obtain⟨e1,pre,e2,T,U⟩:=hg _ _ I;refine⟨by rw[bc,bc];exact e1,by rw[bc];simp,c::pre,by rw[e2];rfl,fun n j=>?_,fun J L i op hi=>?_⟩;·
        rcases List.mem_cons.1 j with rfl|j;·exact uc C.1
        ·exact T n j
       ·rw[bc,bc];show i6 ⟨1,(qi c++(tf l).1)++ba [125]::J,L,i::op⟩=_;rw[List.append_assoc,fg (Bd C.1 _ _ _ _),U _ _ _ (.inr (.inr ⟨_,rfl⟩)),fg (Fb _ _ _ _),wK];congr 2;simp
     ·cases h
  |succ m ih=>
   intro ls l r h;cases l with
    |nil=>cases h|cons c l=>
     rw[aS]at h;split at h;·
      rename_i C;simp only[Bool.and_eq_true]at C;split at h;·cases h
      ·rename_i r' I;obtain⟨e1,pre,e2,T,U⟩:=hg _ _ I;obtain⟨k1,k2,R,k3,k4,k5⟩:=ih _ _ _ h;rw[bc,e1];refine⟨k1,by simp,c::pre++R,by rw[e2,k3];simp,fun n j=>?_,fun J L i op hi=>?_⟩;·
        rcases List.mem_append.1 j with j|j;·
         rcases List.mem_cons.1 j with rfl|j;·exact uc C.1
         ·exact T n j
        ·exact k4 n j
       ·dsimp only;cases P:(bc tf (m+1) r').1 with|nil=>exact absurd P k2|cons u us=>rw[de,←P];show i6 ⟨1,((qi c++(tf l).1)++ba [44]::de (bc tf (m+1) r').1)++ba [125]::J,L,i::op⟩=_;rw[List.append_assoc,List.append_assoc,fg (Bd C.1 _ _ _ _),List.cons_append,U _ _ _ (.inr (.inl ⟨_,rfl⟩)),fg (Fc _ _ _ _),k5 _ _ _ _ (by rw[List.length_append,List.length_append,rW];omega),wK];congr 2;rw[List.append_assoc (jv L i 1),BC _ _ _ _ (by rw[BD];exact hi),BB,Nat.add_comm 1];simp
     ·cases h
def rS(st:List Nd):Prop:=∀n∈st,n.op=2→bJ n.name=true
theorem gI:∀(st:List Nd)(said:Bool)(t:ByteArray),rS st→dH said st t=true→bJ t=true
 |[],_,_,_,h=>by cases h|n::st,said,t,I,h=>by
  rw[dH]at h;have j:rS st:=fun x J=>I x (List.mem_cons_of_mem _ J);split at h;·
   rename_i l;split at h;·rename_i C;rw[beq_iff_eq]at C l;have:=I n (by simp) l;rwa[iw C]at this
   ·exact gI st said t j h
  ·exact gI st true t j h
theorem oa{x:ByteArray}(h:x.toList=[]):x=bt:=iw (by rw[h,Go.ByteArray.toList_eq];rfl)
theorem vu{n:Nd}(h:gO n=true):n=⟨0,bt,bt,0,0⟩:=by simp only[gO,Bool.and_eq_true,beq_iff_eq]at h;obtain⟨⟨⟨⟨j,l⟩,C⟩,I⟩,J⟩:=h;obtain⟨o,x,y,m,s⟩:=n;simp only at j l C I J;rw[j,oa l,oa C,I,J]
theorem vX{n:Nd}(h:mJ n=true):n=⟨1,n.name,bt,0,0⟩:=by simp only[mJ,Bool.and_eq_true,beq_iff_eq]at h;obtain⟨⟨⟨j,l⟩,C⟩,I⟩:=h;obtain⟨o,x,y,m,s⟩:=n;simp only at j l C I;rw[j,oa l,C,I]
theorem zv{n:Nd}(h:gS n=true):n=⟨2,n.name,bt,0,0⟩∧bJ n.name=true:=by simp only[gS,Bool.and_eq_true,beq_iff_eq]at h;obtain⟨⟨⟨⟨j,l⟩,C⟩,I⟩,J⟩:=h;obtain⟨o,x,y,m,s⟩:=n;simp only at j l C I J;rw[j,oa l,C,I];exact⟨rfl,J⟩
theorem vU{j:Bool}{n:Nd}(h:aQ j n=true):n.sort=0∧(∃m:Nat,n.many=((m+1:Nat):Int))∧bJ n.peer=true∧((n.op=3∧bJ n.name=true)∨(n.op=5∧n.name=bt∧bJ n.peer=true)∨(n.op=6∧n.name=bt∧bJ n.peer=true)):=by
 simp only[aQ,Bool.and_eq_true,beq_iff_eq]at h;obtain⟨⟨⟨C,I⟩,J⟩,l⟩:=h;refine⟨J,?_,C,?_⟩;·simp only[fB,Bool.and_eq_true,decide_eq_true_eq]at I;exact⟨n.many.toNat-1,by omega⟩
 ·cases j;·simp only[Bool.false_eq_true,if_false,Bool.and_eq_true,beq_iff_eq]at l;exact .inl l.1
  ·simp only[if_true,Bool.and_eq_true,beq_iff_eq,Bool.or_eq_true]at l;rcases l.2 with e|e;·exact .inr (.inl ⟨e,oa l.1,C⟩)
   ·exact .inr (.inr ⟨e,oa l.1,C⟩)
theorem jO(ab:Bool):∀(f:Nat)(st:List Nd),rS st→Ab (ahead (aQ ab) f st) (cF f):=by
 intro f;induction f with
  |zero=>
   intro st hw l r h;cases l with
    |nil=>cases h|cons n l=>
     rw[ahead]at h;split at h;·
      rename_i I;split at h;·rename_i he;injection h with h;subst h;rw[beq_iff_eq]at I;have e:=vu he;refine⟨by rw[cF,if_neg (by rw[beq_iff_eq];omega)],[n],rfl,fun x j=>by simp at j;subst j;exact .inl I,fun P L op _=>?_⟩;rw[cF,if_neg (by rw[beq_iff_eq];omega)];show i6 ⟨0,ba [101,110,100]::P,L,op⟩=_;rw[fg (Fe _ _ _),←e]
      ·cases h
     ·split at h;·
       rename_i J;split at h;·rename_i T;injection h with h;subst h;simp only[Bool.and_eq_true]at T;have C:=gI st false n.name hw T.2;have e:=vX T.1;rw[beq_iff_eq]at J;refine⟨by rw[cF,if_pos (by rw[beq_iff_eq];exact J)],[n],rfl,fun x j=>by simp at j;subst j;exact .inr (.inl ⟨J,C⟩),fun P L op R=>?_⟩;rw[cF,if_pos (by rw[beq_iff_eq];exact J)];show i6 ⟨0,n.name::P,L,op⟩=_;rw[fg (Ff C R _ _),←e]
       ·cases h
      ·cases h
  |succ f ih=>
   intro st hw l r h;cases l with
    |nil=>cases h|cons n l=>
     rw[ahead]at h;split at h;·
      rename_i I;split at h;·rename_i he;injection h with h;subst h;have e:=vu he;refine⟨by rw[cF,if_pos I],[n],rfl,fun x j=>by simp at j;subst j;rw[beq_iff_eq]at I;exact .inl I,fun P L op _=>?_⟩;rw[cF,if_pos I];show i6 ⟨0,ba [101,110,100]::P,L,op⟩=_;rw[fg (Fe _ _ _),←e]
      ·cases h
     ·rename_i I;split at h;·
       rename_i J;split at h;·rename_i T;injection h with h;subst h;simp only[Bool.and_eq_true]at T;have C:=gI st false n.name hw T.2;have e:=vX T.1;refine⟨by rw[cF,if_neg I,if_pos J],[n],rfl,fun x j=>by simp at j;subst j;rw[beq_iff_eq]at J;exact .inr (.inl ⟨J,C⟩),fun P L op R=>?_⟩;rw[cF,if_neg I,if_pos J];show i6 ⟨0,n.name::P,L,op⟩=_;rw[fg (Ff C R _ _),←e]
       ·cases h
      ·rename_i J;split at h;·
        rename_i U;split at h;·
         rename_i T;simp only[Bool.and_eq_true]at T;obtain⟨e,C⟩:=zv T.1;obtain⟨e1,pre,e2,e3,e4⟩:=ih (n::st) (fun x j R=>by rcases List.mem_cons.1 j with rfl|j;exact C;exact hw x j R) _ _ h;rw[cF,if_neg I,if_neg J,if_pos U];rw[beq_iff_eq]at U;refine⟨e1,n::pre,by rw[e2];rfl,fun x j=>?_,fun P L op R=>?_⟩;·
          rcases List.mem_cons.1 j with rfl|j;·exact .inr (.inr (.inl ⟨U,C⟩))
          ·exact e3 x j
         ·dsimp only;have et:fO n=[ba [114,101,99],ba [32],n.name,ba [46]]:=by unfold fO;rw[if_neg (by omega),if_neg (by omega),if_pos U]
          rw[et];show i6 ⟨0,ba [114,101,99]::ba [32]::n.name::ba [46]::((cF f l).1++P),L,op⟩=_;rw[fg (JB _ _ _),e4 _ _ _ R,←e];simp
        ·cases h
       ·rename_i U;split at h;·
         rename_i hT;obtain⟨t1,⟨m,t2⟩,t3,t4⟩:=vU hT;have hm:n.many.toNat=m+1:=by omega
         rw[hm]at h;rw[beq_iff_eq]at U;obtain⟨e1,e2,pre,e3,e4,e5⟩:=Ca (ih (n::st) (fun x j R=>by rcases List.mem_cons.1 j with rfl|j;exact absurd R U;exact hw x j R)) m [] l r h;rw[cF,if_neg I,if_neg J,if_neg (by rw[beq_iff_eq];exact U),hm];refine⟨e1,n::pre,by rw[e3];rfl,fun x j=>?_,fun P L op R=>?_⟩;·
          rcases List.mem_cons.1 j with rfl|j;·
           rcases t4 with⟨a,b⟩|⟨a,b,c⟩|⟨a,b,c⟩;·exact .inr (.inr (.inr (.inl ⟨a,b,t3⟩)))
           ·exact .inr (.inr (.inr (.inr (.inr ⟨.inl a,c⟩))))
           ·exact .inr (.inr (.inr (.inr (.inr ⟨.inr a,c⟩))))
          ·exact e4 x j
         ·dsimp only;show i6 ⟨0,((fO n++de (bc (cF f) (m+1) l).1)++[ba [125]])++P,L,op⟩=_;rw[List.append_assoc,List.append_assoc,fg (Hn t4 _ _ _)];show i6 ⟨1,de (bc (cF f) (m+1) l).1++ba [125]::P,_,_⟩=_;rw[e5 _ _ _ _ (by simp),yS];congr 2;rw[List.append_assoc];congr 1;obtain⟨o,x,y,mm,s⟩:=n;simp only at t1 t2;subst t1 t2;simp
        ·cases h
def gQ(c:UInt8):Bool:=(decide (97≤c.toNat)&&decide (c.toNat≤122))||(decide (48≤c.toNat)&&decide (c.toNat≤57))||c.toNat==95
def Bs(all:List ByteArray)(w:List UInt8):List ByteArray:=if w.isEmpty then all else all++[ba w]
def JN(s:List ByteArray×List UInt8)(c:UInt8):List ByteArray×List UInt8:=if gQ c then(s.1,s.2++[c])else(Bs s.1 s.2++[ba [c]],[])
def LA(s:List ByteArray×List UInt8):List ByteArray:=Bs s.1 s.2
def LB(t:List UInt8):List ByteArray:=LA (t.foldl JN ([],[]))
def bE(j:List ByteArray):List UInt8:=j.flatMap ByteArray.toList
theorem Hv(a b:ByteArray):(a++b).toList=a.toList++b.toList:=by rw[Go.ByteArray.toList_eq,Go.ByteArray.toList_eq,Go.ByteArray.toList_eq,ByteArray.data_append,Array.toList_append]
theorem wN(j:List ByteArray):(nH j).toList=bE j:=by induction j with|nil=>rw[jP,Go.ByteArray.toList_eq];rfl|cons a j ih=>rw[fZ,Hv,ih];rfl
theorem lY(x:ByteArray):ba x.toList=x:=iw (cS _)
theorem Aj(all:List ByteArray):Bs all []=all:=rfl
theorem Dd{all:List ByteArray}{w:List UInt8}(h:w≠[]):Bs all w=all++[ba w]:=by unfold Bs;cases w with|nil=>exact absurd rfl h|cons a w=>rfl
def wm(x:ByteArray):Prop:=x.toList≠[]∧∀c∈x.toList,gQ c=true
def Ie(x:ByteArray):Prop:=∃c:UInt8,x=ba [c]∧gQ c=false∧c.toNat<128
def qZ:Bool→List ByteArray→Prop|_,[]=>True|j,x::r=>(Ie x∧qZ false r)∨(j=false∧wm x∧qZ true r)
theorem EW{r:List ByteArray}(h:qZ true r):qZ false r:=by
 cases r with
  |nil=>trivial|cons x r=>
   rcases h with h|⟨h,_⟩;·exact .inl h
   ·cases h
theorem CS:∀(w:List UInt8)(s:List ByteArray×List UInt8),(∀c∈w,gQ c=true)→w.foldl JN s=(s.1,s.2++w):=by intro w;induction w with|nil=>intro s _;rw[List.foldl_nil,List.append_nil]|cons c w ih=>intro s h;rw[List.foldl_cons,JN,if_pos (h c List.mem_cons_self),ih _ (fun x j=>h x (List.mem_cons_of_mem _ j))];simp
theorem Cz:∀(j:List ByteArray)(l:Bool)(all:List ByteArray)(w:List UInt8),qZ l j→(l=false→w=[])→LA ((bE j).foldl JN (all,w))=Bs all w++j:=by
 intro j;induction j with
  |nil=>intro l all w _ _;rw[bE,List.flatMap_nil,List.foldl_nil,List.append_nil];rfl|cons x j ih=>
   intro l all w h R;rw[bE,List.flatMap_cons,List.foldl_append];rcases h with⟨⟨c,C,J,-⟩,I⟩|⟨P,C,I⟩;·rw[C,cS,List.foldl_cons,List.foldl_nil,JN,if_neg (by rw[J];simp)];rw[show List.flatMap ByteArray.toList j=bE j from rfl,ih false _ _ I (fun _=>rfl),Aj];simp
   ·rw[R P,CS _ _ C.2,List.nil_append,show List.flatMap ByteArray.toList j=bE j from rfl,ih true _ _ I (fun h=>by cases h),Dd C.1,lY,Aj];simp
theorem Cy:∀(C:List ByteArray)(I:Bool),qZ I C→∀x∈C,∀c∈x.toList,c.toNat<128:=by
 intro C;induction C with
  |nil=>intro _ _ x j;cases j|cons y C ih=>
   intro I h x j c l;rcases h with⟨⟨d,R,hd,J⟩,P⟩|⟨-,R,P⟩;·
    rcases List.mem_cons.1 j with rfl|j;·rw[R,cS]at l;simp at l;rw[l];exact J
    ·exact ih _ P x j c l
   ·rcases List.mem_cons.1 j with rfl|j;·have:=R.2 c l;simp only[gQ,Bool.or_eq_true,Bool.and_eq_true,decide_eq_true_eq,beq_iff_eq]at this;omega
    ·exact ih _ P x j c l
theorem gE{x:ByteArray}(h:bJ x=true):wm x:=by
 refine⟨FA h,fun c J=>?_⟩;simp only[bJ,du,Bool.and_eq_true,List.all_eq_true,List.mem_range]at h;obtain⟨j,P,e⟩:=List.getElem_of_mem J;have C:j<x.size:=by
  have:x.toList.length=x.size:=by rw[Go.ByteArray.toList_eq];rfl
  omega
 have l:=h.1.2 j C;have I:ei x j=(c.toNat:Int):=by
  unfold ei;rw[dif_pos C];have:x[j]=c:=by rw[←e];simp only[Go.ByteArray.toList_eq];rfl
  rw[this]
 rw[I]at l;simp only[tg,Bool.or_eq_true,Bool.and_eq_true,decide_eq_true_eq,beq_iff_eq]at l;simp only[gQ,Bool.or_eq_true,Bool.and_eq_true,decide_eq_true_eq,beq_iff_eq];omega
theorem ir(c:UInt8)(h:gQ c=false)(j:c.toNat<128):Ie (ba [c]):=⟨c,rfl,h,j⟩
theorem uI{t:List UInt8}(h:t≠[])(j:∀c∈t,gQ c=true):wm (ba t):=⟨by rw[cS];exact h,by rw[cS];exact j⟩
theorem E6(s:Int):wm (eV s):=by
 unfold eV;split;·exact uI (by simp) (by decide)
 ·split<;>exact uI (by simp) (by decide)
def Ac(l:List ByteArray):Prop:=∀j,qZ true j→qZ false (l++j)
def C7(go:List Nd→Option (List Nd))(tf:List Nd→List ByteArray×List Nd):Prop:=∀l r,go l=some r→Ac (tf l).1∧(tf l).2=r
theorem DU{go:List Nd→Option (List Nd)}{tf:List Nd→List ByteArray×List Nd}(R:C7 go tf):∀(m:Nat)(ls:List ByteArray)(l r:List Nd),aS go (m+1) ls l=some r→Ac (de (bc tf (m+1) l).1)∧(bc tf (m+1) l).1≠[]:=by
 have one:∀(c:Nd)(P ms:List ByteArray),cI c=true→Ac P→qZ true ms→qZ false ((qi c++P)++ms):=fun c P ms j U J=>by simp only[cI,Bool.and_eq_true,beq_iff_eq]at j;rw[List.append_assoc];show qZ false (c.name::ba [40]::eV c.sort::ba [41]::ba [46]::(P++ms));exact .inr ⟨rfl,gE j.1.2,.inl ⟨ir _ (by decide) (by decide),.inr ⟨rfl,E6 _,.inl ⟨ir _ (by decide) (by decide),.inl ⟨ir _ (by decide) (by decide),U ms J⟩⟩⟩⟩⟩
 intro m;induction m with
  |zero=>
   intro ls l r h;cases l with
    |nil=>cases h|cons c l=>
     rw[aS]at h;split at h;·
      rename_i j;simp only[Bool.and_eq_true]at j;split at h;·cases h
      ·rename_i T C;rw[bc,bc];exact⟨fun ms J=>one c _ ms j.1 (R _ _ C).1 J,by simp⟩
     ·cases h
  |succ m ih=>
   intro ls l r h;cases l with
    |nil=>cases h|cons c l=>
     rw[aS]at h;split at h;·
      rename_i j;simp only[Bool.and_eq_true]at j;split at h;·cases h
      ·rename_i T C;obtain⟨e1,e2⟩:=R _ _ C;obtain⟨k1,k2⟩:=ih _ _ _ h;rw[bc,e2];refine⟨fun ms J=>?_,by simp⟩;dsimp only;cases I:(bc tf (m+1) T).1 with|nil=>exact absurd I k2|cons u us=>rw[de,←I,List.append_assoc];exact one c _ _ j.1 e1 (.inl ⟨ir _ (by decide) (by decide),k1 ms J⟩)
     ·cases h
theorem Bv(C:Bool):∀(f:Nat)(st:List Nd),rS st→C7 (ahead (aQ C) f st) (cF f):=by
 have J:Ac [ba [101,110,100]]:=fun ms I=>.inr ⟨rfl,uI (by simp) (by decide),I⟩;intro f;induction f with
  |zero=>
   intro st U l r h;have j:=(jO C 0 st U l r h).1;refine⟨?_,j⟩;cases l with
    |nil=>cases h|cons n l=>
     rw[ahead]at h;split at h;·rename_i R;rw[beq_iff_eq]at R;rw[cF,if_neg (by rw[beq_iff_eq];omega)];exact J
     ·split at h;·
       rename_i h1;split at h;·rename_i P;simp only[Bool.and_eq_true]at P;rw[cF,if_pos h1];exact fun ms I=>.inr ⟨rfl,gE (gI st false n.name U P.2),I⟩
       ·cases h
      ·cases h
  |succ f ih=>
   intro st U l r h;have j:=(jO C (f+1) st U l r h).1;refine⟨?_,j⟩;cases l with
    |nil=>cases h|cons n l=>
     rw[ahead]at h;split at h;·rename_i R;rw[cF,if_pos R];exact J
     ·rename_i R;split at h;·
       rename_i h1;split at h;·rename_i P;simp only[Bool.and_eq_true]at P;rw[cF,if_neg R,if_pos h1];exact fun ms I=>.inr ⟨rfl,gE (gI st false n.name U P.2),I⟩
       ·cases h
      ·rename_i h1;split at h;·
        rename_i j;split at h;·
         rename_i P;simp only[Bool.and_eq_true]at P;obtain⟨e,ab⟩:=zv P.1;obtain⟨e1,-⟩:=ih (n::st) (fun x hx ho=>by rcases List.mem_cons.1 hx with rfl|hx;exact ab;exact U x hx ho) _ _ h;rw[cF,if_neg R,if_neg h1,if_pos j];rw[beq_iff_eq]at j;have et:fO n=[ba [114,101,99],ba [32],n.name,ba [46]]:=by unfold fO;rw[if_neg (by omega),if_neg (by omega),if_pos j]
         rw[et];exact fun ms I=>.inr ⟨rfl,uI (by simp) (by decide),.inl ⟨ir _ (by decide) (by decide),.inr ⟨rfl,gE ab,.inl ⟨ir _ (by decide) (by decide),e1 ms I⟩⟩⟩⟩
        ·cases h
       ·rename_i j;split at h;·
         rename_i hT;obtain⟨t1,⟨m,t2⟩,t3,t4⟩:=vU hT;have I:n.many.toNat=m+1:=by omega
         rw[I]at h;rw[beq_iff_eq]at j;obtain⟨k1,-⟩:=DU (ih (n::st) (fun x hx ho=>by rcases List.mem_cons.1 hx with rfl|hx;exact absurd ho j;exact U x hx ho)) m [] l r h;rw[cF,if_neg R,if_neg h1,if_neg (by rw[beq_iff_eq];exact j),I];intro ms ac;dsimp only;rw[List.append_assoc,List.append_assoc];have T:qZ false (de (bc (cF f) (m+1) l).1++([ba [125]]++ms)):=k1 _ (.inl ⟨ir _ (by decide) (by decide),EW ac⟩);rcases t4 with⟨a,b⟩|⟨a,b,c⟩|⟨a,b,c⟩;·
          have e:fO n=[n.name,ba [62],n.peer,ba [123]]:=by unfold fO;rw[if_neg (by omega),if_neg (by omega),if_neg (by omega),if_neg (by omega),if_neg (by omega)]
          rw[e];exact .inr ⟨rfl,gE b,.inl ⟨ir _ (by decide) (by decide),.inr ⟨rfl,gE t3,.inl ⟨ir _ (by decide) (by decide),T⟩⟩⟩⟩
         ·have e:fO n=[n.peer,ba [33],ba [123]]:=by unfold fO;rw[if_neg (by omega),if_neg (by omega),if_neg (by omega),if_pos a]
          rw[e];exact .inr ⟨rfl,gE t3,.inl ⟨ir _ (by decide) (by decide),.inl ⟨ir _ (by decide) (by decide),T⟩⟩⟩
         ·have e:fO n=[n.peer,ba [63],ba [123]]:=by unfold fO;rw[if_neg (by omega),if_neg (by omega),if_neg (by omega),if_neg (by omega),if_pos a]
          rw[e];exact .inr ⟨rfl,gE t3,.inl ⟨ir _ (by decide) (by decide),.inl ⟨ir _ (by decide) (by decide),T⟩⟩⟩
        ·cases h
theorem zW{j:Bool}{ns:List Nd}(h:cL j ns=true):LB (bH 10 ns).1.toList=(cF 10 ns).1∧(bH 10 ns).1=nH (cF 10 ns).1∧∀x∈(cF 10 ns).1,∀c∈x.toList,c.toNat<128:=by
 have R:=h;simp only[cL,Bool.and_eq_true,beq_iff_eq]at h;have I:=h.2.1;cases J:ahead (aQ j) 10 [] ns with
  |none=>rw[J]at I;cases I|some r=>
   obtain⟨e1,e2⟩:=Bv j 10 [] (fun n P=>by cases P) _ _ J;have l:=e1 [] trivial;rw[List.append_nil]at l;have C:(bH 10 ns).1=nH (cF 10 ns).1:=by rw[Fm]
   refine⟨?_,C,Cy _ _ l⟩;rw[C,wN,LB,Cz _ false [] [] l (fun _=>rfl)];rfl
structure Ss where
 r:List UInt8
 l:List Nd
 bad:Bool
def tU(s:Ss):List UInt8:=s.r.takeWhile gQ
def kD(s:Ss):Ss:={s with r:=s.r.dropWhile gQ}
def nO(t:List UInt8)(s:Ss):Option Ss:=if !s.bad&&t.isPrefixOf s.r then some {s with r:=s.r.drop t.length}else none
def dg(t:List UInt8)(s:Ss):Ss:=match nO t s with|some j=>j|none=>{s with bad:=true}
def gY(n:Nd)(s:Ss):Ss:={s with l:=s.l++[n]}
def yv(w:List UInt8):Int:=if w=[105,110,116]then 1 else if w=[116,101,120,116]then 2 else 0
def jw(go:Ss→Ss)(s:Ss):Ss:=go (gY ⟨4,ba (tU s),bt,0,yv (tU (dg [40] (kD s)))⟩ (dg [41,46] (kD (dg [40] (kD s)))))
def iH(go:Ss→Ss):Nat→Nat→Ss→Nat×Ss|0,many,s=>(many,s)|j+1,many,s=>if s.bad then(many,s)else match nO [44] (jw go s)with|some l=>iH go j (many+1) l|none=>(many+1,jw go s)
def setMany(l:List Nd)(i m:Nat):List Nd:=l.modify i fun n=>{n with many:=(m:Int)}
def eD(go:Ss→Ss)(n:Nd)(s:Ss):Ss:={dg [125] (iH go 5 0 (gY n s)).2 with l:=setMany (iH go 5 0 (gY n s)).2.l s.l.length (iH go 5 0 (gY n s)).1}
def ew(j:Bool):Nat→Ss→Ss|0,s=>{s with bad:=true}|f+1,s=>if s.bad||decide (40<s.l.length)then{s with bad:=true}else if tU s=[101,110,100]then gY ⟨0,bt,bt,0,0⟩ (kD s)else if tU s=[114,101,99]then ew j f (dg [46] (gY ⟨2,ba (tU (dg [32] (kD s))),bt,0,0⟩ (kD (dg [32] (kD s)))))else match(if j then none else nO [62] (kD s))with|some C=>eD (ew j f) ⟨3,ba (tU s),ba (tU C),0,0⟩ (dg [123] (kD C))|none=>match(if j then nO [33,123] (kD s)else none)with|some C=>eD (ew j f) ⟨5,bt,ba (tU s),0,0⟩ C|none=>match(if j then nO [63,123] (kD s)else none)with|some C=>eD (ew j f) ⟨6,bt,ba (tU s),0,0⟩ C|none=>gY ⟨1,ba (tU s),bt,0,0⟩ (kD s)
def DJ(r:List UInt8):Prop:=r=[]∨∃c q,r=c::q∧gQ c=false
theorem ny{x:ByteArray}(C:wm x){r:List UInt8}(J:DJ r)(L:List Nd)(b:Bool):tU ⟨x.toList++r,L,b⟩=x.toList∧kD ⟨x.toList++r,L,b⟩=⟨r,L,b⟩:=by
 have key:∀(w:List UInt8),(∀c∈w,gQ c=true)→(w++r).takeWhile gQ=w∧(w++r).dropWhile gQ=r:=by
  intro w;induction w with
   |nil=>
    intro _;rcases J with rfl|⟨c,q,rfl,I⟩;·exact⟨rfl,rfl⟩
    ·rw[List.nil_append,List.takeWhile_cons,List.dropWhile_cons,I];exact⟨rfl,rfl⟩|cons c w ih=>intro h;obtain⟨j,l⟩:=ih (fun x C=>h x (List.mem_cons_of_mem _ C));rw[List.cons_append,List.takeWhile_cons,List.dropWhile_cons,h c List.mem_cons_self,j,l];exact⟨rfl,rfl⟩
 obtain⟨j,l⟩:=key x.toList C.2;unfold tU kD;exact⟨j,by rw[l]⟩
theorem xt(t r:List UInt8)(L:List Nd):nO t ⟨t++r,L,false⟩=some ⟨r,L,false⟩:=by unfold nO;rw[if_pos (by simp)];simp
theorem mQ(t r:List UInt8)(L:List Nd):dg t ⟨t++r,L,false⟩=⟨r,L,false⟩:=by unfold dg;rw[xt]
theorem xv{t r:List UInt8}(h:t.isPrefixOf r=false)(L:List Nd)(b:Bool):nO t ⟨r,L,b⟩=none:=by unfold nO;rw[if_neg (by rw[h];simp)]
theorem fJ(x:ByteArray)(j:List ByteArray):bE (x::j)=x.toList++bE j:=rfl
theorem gP(a b:List ByteArray):bE (a++b)=bE a++bE b:=by unfold bE;rw[List.flatMap_append]
theorem gh(t:List UInt8)(j:List ByteArray):bE (ba t::j)=t++bE j:=by rw[fJ,cS]
def Cl(r:List UInt8):Prop:=r=[]∨(∃q,r=44::q)∨∃q,r=125::q
theorem xS{r:List UInt8}(h:Cl r):DJ r:=by
 rcases h with rfl|⟨q,rfl⟩|⟨q,rfl⟩;·exact .inl rfl
 ·exact .inr ⟨_,_,rfl,by decide⟩
 ·exact .inr ⟨_,_,rfl,by decide⟩
theorem zn{r:List UInt8}(h:Cl r){c:UInt8}{t:List UInt8}(j:c≠44)(l:c≠125):(c::t).isPrefixOf r=false:=by
 rcases h with rfl|⟨q,rfl⟩|⟨q,rfl⟩;·rfl
 ·simp[List.isPrefixOf,j]
 ·simp[List.isPrefixOf,l]
theorem gL(c:UInt8)(j:gQ c=false)(q:List UInt8):DJ (c::q):=.inr ⟨c,q,rfl,j⟩
def yQ(go:List Nd→Option (List Nd))(tf:List Nd→List ByteArray×List Nd)(j:Ss→Ss):Prop:=∀l r,go l=some r→(tf l).2=r∧∃pre,l=pre++r∧∀more L,Cl more→L.length+l.length≤40→j ⟨bE (tf l).1++more,L,false⟩=⟨more,L++pre,false⟩
theorem Hi{s:Int}(h:jF s=true):yv (eV s).toList=s:=by
 simp only[jF,Bool.and_eq_true,decide_eq_true_eq]at h;have:s=0∨s=1∨s=2:=by omega
 rcases this with rfl|rfl|rfl<;>(unfold eV yv;simp[cS])
theorem Ap{go:List Nd→Option (List Nd)}{tf:List Nd→List ByteArray×List Nd}{C:Ss→Ss}(hg:yQ go tf C){c:Nd}(j:cI c=true){l r:List Nd}(h:go l=some r):∃pre,l=pre++r∧∀more L,Cl more→L.length+(l.length+1)≤40→jw C ⟨bE (qi c++(tf l).1)++more,L,false⟩=⟨more,L++c::pre,false⟩:=by
 obtain⟨e1,pre,e2,U⟩:=hg l r h;have ab:=j;simp only[cI,Bool.and_eq_true,beq_iff_eq]at j;obtain⟨⟨⟨⟨I,J⟩,P⟩,h4⟩,h5⟩:=j;refine⟨pre,e2,fun more L ho hl=>?_⟩;have ef:bE (qi c++(tf l).1)++more=c.name.toList++(40::((eV c.sort).toList++(41::46::(bE (tf l).1++more)))):=by rw[gP];unfold qi;rw[fJ,gh,fJ,gh,gh];simp[bE]
 rw[ef];unfold jw;obtain⟨a1,a2⟩:=ny (gE h4) (gL 40 (by decide) ((eV c.sort).toList++(41::46::(bE (tf l).1++more)))) L false;obtain⟨R,T⟩:=ny (E6 c.sort) (gL 41 (by decide) (46::(bE (tf l).1++more))) L false;have m1:dg [40] ⟨40::((eV c.sort).toList++(41::46::(bE (tf l).1++more))),L,false⟩=⟨(eV c.sort).toList++(41::46::(bE (tf l).1++more)),L,false⟩:=mQ [40] _ _;have m2:dg [41,46] ⟨41::46::(bE (tf l).1++more),L,false⟩=⟨bE (tf l).1++more,L,false⟩:=mQ [41,46] _ _;rw[a1,a2,m1,R,T,m2,Hi h5,lY];have ec:(⟨4,c.name,bt,0,c.sort⟩:Nd)=c:=by obtain⟨o,x,y,m,s⟩:=c;simp only at I J P;rw[I,P,oa J]
 rw[ec,gY];dsimp only;rw[U _ _ ho (by rw[List.length_append];simp;omega)];simp
theorem Gu{go:List Nd→Option (List Nd)}{tf:List Nd→List ByteArray×List Nd}{gs:Ss→Ss}(U:yQ go tf gs):∀(m:Nat)(ls:List ByteArray)(l r:List Nd),aS go (m+1) ls l=some r→(bc tf (m+1) l).2=r∧(bc tf (m+1) l).1≠[]∧∃pre,l=pre++r∧∀more L j many,m+1≤j→L.length+l.length≤40→iH gs j many ⟨bE (de (bc tf (m+1) l).1)++125::more,L,false⟩=(many+(m+1),⟨125::more,L++pre,false⟩):=by
 intro m;induction m with
  |zero=>
   intro ls l r h;cases l with
    |nil=>cases h|cons c l=>
     rw[aS]at h;split at h;·
      rename_i J;simp only[Bool.and_eq_true]at J;split at h;·cases h
      ·rename_i I C;rw[aS]at h;injection h with h;subst h;obtain⟨pre,e2,e3⟩:=Ap U J.1 C;refine⟨by rw[bc,bc];exact(U _ _ C).1,by rw[bc];simp,c::pre,by rw[e2];rfl,fun more L j many hj R=>?_⟩;obtain⟨j,rfl⟩:∃i,j=i+1:=⟨j-1,by omega⟩;rw[bc,bc,iH];show(if false=true then _ else _)=_;rw[if_neg (by simp)];have e4:=e3 (125::more) L (.inr (.inr ⟨_,rfl⟩)) (by simpa using R);show(match nO [44] (jw gs ⟨bE (qi c++(tf l).1)++125::more,L,false⟩)with|some s'=>_|none=>_)=_;rw[e4,xv (by simp[List.isPrefixOf])];exact congrArg (Prod.mk (many+1)) e4
     ·cases h
  |succ m ih=>
   intro ls l r h;cases l with
    |nil=>cases h|cons c l=>
     rw[aS]at h;split at h;·
      rename_i J;simp only[Bool.and_eq_true]at J;split at h;·cases h
      ·rename_i I C;obtain⟨pre,e2,e3⟩:=Ap U J.1 C;obtain⟨k1,k2,T,k3,k5⟩:=ih _ _ _ h;have e1:=(U _ _ C).1;rw[bc,e1];refine⟨k1,by simp,c::pre++T,by rw[e2,k3];simp,fun more L j many hj R=>?_⟩;obtain⟨j,rfl⟩:∃i,j=i+1:=⟨j-1,by omega⟩;dsimp only;cases P:(bc tf (m+1) I).1 with
        |nil=>exact absurd P k2|cons u us=>
         rw[de,←P,iH];show(if false=true then _ else _)=_;rw[if_neg (by simp)];have ef:bE ((qi c++(tf l).1)++ba [44]::de (bc tf (m+1) I).1)++125::more=bE (qi c++(tf l).1)++(44::(bE (de (bc tf (m+1) I).1)++125::more)):=by rw[gP _ (ba [44]::_),gh];simp
         rw[ef,e3 _ _ (.inr (.inl ⟨_,rfl⟩)) (by simpa using R),show nO [44] ⟨44::(bE (de (bc tf (m+1) I).1)++125::more),L++c::pre,false⟩=some ⟨bE (de (bc tf (m+1) I).1)++125::more,L++c::pre,false⟩from xt [44] _ _];dsimp only;rw[k5 _ _ _ _ (by omega) (by rw[e2]at R;simp at R⊢;omega)];simp;omega
     ·cases h
theorem EX(a b:List Nd)(n:Nd)(m:Nat):setMany (a++[n]++b) a.length m=a++[{n with many:=(m:Int)}]++b:=by unfold setMany;rw[List.append_assoc,List.append_assoc];induction a with|nil=>rfl|cons x a ih=>rw[List.cons_append,List.length_cons,List.modify_succ_cons,ih];rfl
theorem wD(j:Bool):∀(f:Nat)(st:List Nd),rS st→yQ (ahead (aQ j) f st) (cF f) (ew j (f+1)):=by
 have ab:∀f more(L:List Nd),L.length+1≤40→Cl more→ew j (f+1) ⟨bE [ba [101,110,100]]++more,L,false⟩=⟨more,L++[⟨0,bt,bt,0,0⟩],false⟩:=fun f more L J I=>by
  rw[ew,if_neg (by simp;omega)];have P:bE [ba [101,110,100]]++more=(ba [101,110,100]).toList++more:=by simp[bE]
  rw[P];obtain⟨a1,a2⟩:=ny (uI (t:=[101,110,100]) (by simp) (by decide)) (xS I) L false;rw[a1,a2,if_pos (cS _)];rfl
 have ac:∀f more(L:List Nd)(x:ByteArray),bJ x=true→L.length+1≤40→Cl more→ew j (f+1) ⟨bE [x]++more,L,false⟩=⟨more,L++[⟨1,x,bt,0,0⟩],false⟩:=fun f more L x hx J I=>by
  rw[ew,if_neg (by simp;omega)];have P:bE [x]++more=x.toList++more:=by simp[bE]
  rw[P];obtain⟨a1,a2⟩:=ny (gE hx) (xS I) L false;obtain⟨R,T⟩:=eZ hx;rw[a1,a2,if_neg (by intro e;rw[e]at R;simp at R),if_neg (by intro e;rw[e]at T;simp at T),xv (zn I (by decide) (by decide)),xv (zn I (by decide) (by decide)),xv (zn I (by decide) (by decide))];cases j<;>(simp only[Bool.false_eq_true,if_false,if_true];rw[lY];rfl)
 intro f;induction f with
  |zero=>
   intro st hw l r h;obtain⟨e1,pre,e2,-⟩:=jO j 0 st hw l r h;refine⟨e1,pre,e2,?_⟩;cases l with
    |nil=>cases h|cons n l=>
     rw[ahead]at h;split at h;·
      rename_i h0;split at h;·
       rename_i he;injection h with h;subst h;rw[beq_iff_eq]at h0;have hp:pre=[n]:=by have:=congrArg List.length e2;simp at this;obtain⟨y,rfl⟩:∃y,pre=[y]:=List.length_eq_one_iff.1 (by omega);simp at e2;rw[e2]
       subst hp;rw[cF,if_neg (by rw[beq_iff_eq];omega)];intro more L I J;rw[ab 0 more L (by simp at J;omega) I,←vu he]
      ·cases h
     ·split at h;·
       rename_i h1;split at h;·
        rename_i U;injection h with h;subst h;simp only[Bool.and_eq_true]at U;have hp:pre=[n]:=by have:=congrArg List.length e2;simp at this;obtain⟨y,rfl⟩:∃y,pre=[y]:=List.length_eq_one_iff.1 (by omega);simp at e2;rw[e2]
        subst hp;rw[cF,if_pos h1];intro more L I J;rw[ac 0 more L n.name (gI st false n.name hw U.2) (by simp at J;omega) I,←vX U.1]
       ·cases h
      ·cases h
  |succ f ih=>
   intro st hw l r h;obtain⟨e1,ah,ao,-⟩:=jO j (f+1) st hw l r h;refine⟨e1,?_⟩;cases l with
    |nil=>cases h|cons n l=>
     rw[ahead]at h;split at h;·
      rename_i h0;split at h;·rename_i he;injection h with h;subst h;rw[cF,if_pos h0];refine⟨[n],rfl,fun more L I J=>?_⟩;rw[ab (f+1) more L (by simp at J;omega) I,←vu he]
      ·cases h
     ·rename_i h0;split at h;·
       rename_i h1;split at h;·rename_i U;injection h with h;subst h;simp only[Bool.and_eq_true]at U;rw[cF,if_neg h0,if_pos h1];refine⟨[n],rfl,fun more L I J=>?_⟩;rw[ac (f+1) more L n.name (gI st false n.name hw U.2) (by simp at J;omega) I,←vX U.1]
       ·cases h
      ·rename_i h1;split at h;·
        rename_i h2;split at h;·
         rename_i U;simp only[Bool.and_eq_true]at U;obtain⟨e,af⟩:=zv U.1;obtain⟨-,pre,e2,e3⟩:=ih (n::st) (fun x hx I=>by rcases List.mem_cons.1 hx with rfl|hx;exact af;exact hw x hx I) _ _ h;rw[cF,if_neg h0,if_neg h1,if_pos h2];rw[beq_iff_eq]at h2;refine⟨n::pre,by rw[e2];rfl,fun more L I J=>?_⟩;have et:fO n=[ba [114,101,99],ba [32],n.name,ba [46]]:=by unfold fO;rw[if_neg (by omega),if_neg (by omega),if_pos h2]
         have P:bE (fO n++(cF f l).1)++more=(ba [114,101,99]).toList++(32::(n.name.toList++(46::(bE (cF f l).1++more)))):=by rw[et,gP,fJ,gh,fJ,gh];simp[bE]
         dsimp only;rw[P,ew,if_neg (by simp at J⊢;omega)];obtain⟨a1,a2⟩:=ny (uI (t:=[114,101,99]) (by simp) (by decide)) (gL 32 (by decide) (n.name.toList++(46::(bE (cF f l).1++more)))) L false;obtain⟨b1,b2⟩:=ny (gE af) (gL 46 (by decide) (bE (cF f l).1++more)) L false;have m1:dg [32] ⟨32::(n.name.toList++(46::(bE (cF f l).1++more))),L,false⟩=⟨n.name.toList++(46::(bE (cF f l).1++more)),L,false⟩:=mQ [32] _ _;rw[a1,a2,cS,if_neg (by decide),if_pos rfl,m1,b1,b2,lY,←e,gY];have m2:dg [46] ⟨46::(bE (cF f l).1++more),L++[n],false⟩=⟨bE (cF f l).1++more,L++[n],false⟩:=mQ [46] _ _;dsimp only;rw[m2,e3 _ _ I (by simp at J⊢;omega)];simp
        ·cases h
       ·rename_i h2;split at h;·
         rename_i hT;obtain⟨t1,⟨m,t2⟩,t3,t4⟩:=vU hT;have hm:n.many.toNat=m+1:=by omega
         have av:m+1≤4:=by have ad:=hT;simp only[aQ,Bool.and_eq_true]at ad;have:=ad.1.1.2;simp only[fB,Bool.and_eq_true,decide_eq_true_eq]at this;omega
         rw[hm]at h;rw[beq_iff_eq]at h2;obtain⟨-,-,pre,e3,e5⟩:=Gu (ih (n::st) (fun x hx I=>by rcases List.mem_cons.1 hx with rfl|hx;exact absurd I h2;exact hw x hx I)) m [] l r h;rw[cF,if_neg h0,if_neg h1,if_neg (by rw[beq_iff_eq];exact h2),hm];refine⟨n::pre,by rw[e3];rfl,fun more L I J=>?_⟩;have cs:∀n0:Nd,n0.many=0→({n0 with many:=((m+1:Nat):Int)}:Nd)=n→eD (ew j (f+1)) n0 ⟨bE (de (bc (cF f) (m+1) l).1)++125::more,L,false⟩=⟨more,L++n::pre,false⟩:=fun n0 _ ag=>by unfold eD gY;dsimp only;rw[e5 _ _ _ _ (by omega) (by simp at J⊢;omega)];dsimp only;rw[show dg [125] ⟨125::more,L++[n0]++pre,false⟩=⟨more,L++[n0]++pre,false⟩from mQ [125] _ _,EX,Nat.zero_add,ag];simp
         dsimp only;rw[ew,if_neg (by simp at J⊢;omega)];rcases t4 with⟨a,b⟩|⟨a,b,c⟩|⟨a,b,c⟩;·
          have C:j=false:=by
           cases j;·rfl
           ·simp[aQ,a]at hT
          subst C;have P:bE (fO n++de (bc (cF f) (m+1) l).1++[ba [125]])++more=n.name.toList++(62::(n.peer.toList++(123::(bE (de (bc (cF f) (m+1) l).1)++125::more)))):=by
           have e:fO n=[n.name,ba [62],n.peer,ba [123]]:=by unfold fO;rw[if_neg (by omega),if_neg (by omega),if_neg (by omega),if_neg (by omega),if_neg (by omega)]
           rw[e,gP,gP,fJ,gh,fJ,gh];simp[bE,cS]
          rw[P];obtain⟨a1,a2⟩:=ny (gE b) (gL 62 (by decide) (n.peer.toList++(123::(bE (de (bc (cF f) (m+1) l).1)++125::more)))) L false;obtain⟨b1,b2⟩:=ny (gE t3) (gL 123 (by decide) (bE (de (bc (cF f) (m+1) l).1)++125::more)) L false;obtain⟨R,T⟩:=eZ b;rw[a1,a2,if_neg (by intro e;rw[e]at R;simp at R),if_neg (by intro e;rw[e]at T;simp at T)];simp only[Bool.false_eq_true,if_false];rw[show nO [62] ⟨62::(n.peer.toList++(123::(bE (de (bc (cF f) (m+1) l).1)++125::more))),L,false⟩=some ⟨n.peer.toList++(123::(bE (de (bc (cF f) (m+1) l).1)++125::more)),L,false⟩from xt [62] _ _];dsimp only;rw[b1,b2,show dg [123] ⟨123::(bE (de (bc (cF f) (m+1) l).1)++125::more),L,false⟩=⟨bE (de (bc (cF f) (m+1) l).1)++125::more,L,false⟩from mQ [123] _ _,lY,lY];refine cs _ rfl ?_;obtain⟨o,x,y,mm,s⟩:=n;simp only at t1 t2 a;rw[t1,t2,a]
         ·have C:j=true:=by
           cases j;·simp[aQ,a]at hT
           ·rfl
          subst C;have P:bE (fO n++de (bc (cF f) (m+1) l).1++[ba [125]])++more=n.peer.toList++(33::123::(bE (de (bc (cF f) (m+1) l).1)++125::more)):=by
           have e:fO n=[n.peer,ba [33],ba [123]]:=by unfold fO;rw[if_neg (by omega),if_neg (by omega),if_neg (by omega),if_pos a]
           rw[e,gP,gP,fJ,gh,gh];simp[bE,cS]
          rw[P];obtain⟨a1,a2⟩:=ny (gE t3) (gL 33 (by decide) (123::(bE (de (bc (cF f) (m+1) l).1)++125::more))) L false;obtain⟨R,T⟩:=eZ t3;rw[a1,a2,if_neg (by intro e;rw[e]at R;simp at R),if_neg (by intro e;rw[e]at T;simp at T)];simp only[if_true];rw[show nO [33,123] ⟨33::123::(bE (de (bc (cF f) (m+1) l).1)++125::more),L,false⟩=some ⟨bE (de (bc (cF f) (m+1) l).1)++125::more,L,false⟩from xt [33,123] _ _];dsimp only;rw[lY];refine cs _ rfl ?_;obtain⟨o,x,y,mm,s⟩:=n;simp only at t1 t2 a b;rw[t1,t2,a,b]
         ·have C:j=true:=by
           cases j;·simp[aQ,a]at hT
           ·rfl
          subst C;have P:bE (fO n++de (bc (cF f) (m+1) l).1++[ba [125]])++more=n.peer.toList++(63::123::(bE (de (bc (cF f) (m+1) l).1)++125::more)):=by
           have e:fO n=[n.peer,ba [63],ba [123]]:=by unfold fO;rw[if_neg (by omega),if_neg (by omega),if_neg (by omega),if_neg (by omega),if_pos a]
           rw[e,gP,gP,fJ,gh,gh];simp[bE,cS]
          rw[P];obtain⟨a1,a2⟩:=ny (gE t3) (gL 63 (by decide) (123::(bE (de (bc (cF f) (m+1) l).1)++125::more))) L false;obtain⟨R,T⟩:=eZ t3;rw[a1,a2,if_neg (by intro e;rw[e]at R;simp at R),if_neg (by intro e;rw[e]at T;simp at T)];simp only[if_true];rw[xv (t:=[33,123]) (by simp[List.isPrefixOf]),show nO [63,123] ⟨63::123::(bE (de (bc (cF f) (m+1) l).1)++125::more),L,false⟩=some ⟨bE (de (bc (cF f) (m+1) l).1)++125::more,L,false⟩from xt [63,123] _ _];dsimp only;rw[lY];refine cs _ rfl ?_;obtain⟨o,x,y,mm,s⟩:=n;simp only at t1 t2 a b;rw[t1,t2,a,b]
        ·cases h
theorem ly{j:Bool}{ns:List Nd}(h:cL j ns=true):ew j 11 ⟨(bH 10 ns).1.toList,[],false⟩=⟨[],ns,false⟩:=by
 have J:=h;simp only[cL,Bool.and_eq_true,beq_iff_eq,decide_eq_true_eq]at h;have l:=h.2.1;cases C:ahead (aQ j) 10 [] ns with
  |none=>rw[C]at l;cases l|some r=>
   rw[C]at l;have R:r=[]:=by simpa using l
   subst R;obtain⟨-,pre,e2,I⟩:=wD j 10 [] (fun n P=>by cases P) _ _ C;rw[List.append_nil]at e2;subst e2;have:=I [] [] (.inl rfl) (by simpa using h.1);rw[List.append_nil,List.nil_append]at this;rw[(zW J).2.1,wN];exact this
def LG(j:List ByteArray):Prop:=∀m∈j,m.size≤8000
def Lz(l:List Nd):Prop:=∀n∈l,n.name.size≤8000∧n.peer.size≤8000
structure LS(s:Rs):Prop where
 ok:LK s
 l1:s.l.length+iY s≤30000
 l2:s.op.length+iY s≤30000
 mz:LG s.ms
 lz:Lz s.l
 mn:∀n∈s.l,0≤n.many∧n.many+(iY s:Int)≤30000
structure yP(w:World)(mb tb:Nat)(ms:List ByteArray):Prop where
 at_:∃ao cap,bA w mb [.slice ao ms.length cap]∧ms.length≤cap∧cap≤9223372036854775807∧(ms≠[]→∃o,ao=some ⟨tb,o,none⟩∧tb<w.heap.size∧∀i(h:i<ms.length),w.cell? ⟨tb,o+i,none⟩=some (.string ms[i]))
 ne:tb≠mb
theorem yP.keep{w w':World}{mb P:Nat}{R:List ByteArray}{l:List Nat}(h:yP w mb P R)(j:aw w w' l)(U:mb∉l)(h2:P∉l):yP w' mb P R:=by obtain⟨T,cap,hb,hc,hm,hr⟩:=h.at_;refine⟨⟨T,cap,hb.keep j U,hc,hm,fun J=>?_⟩,h.ne⟩;obtain⟨o,e,I,C⟩:=hr J;exact⟨o,e,Nat.lt_of_lt_of_le I j.size,fun i hi=>j.bN (C i hi) h2⟩
theorem yP.below{w w':World}{mb l:Nat}{j:List ByteArray}(h:yP w mb l j)(C:Below w.heap.size w w'):yP w' mb l j:=h.keep (ak C) (by simp) (by simp)
def Ib(w:World)(base:Nat)(v:Value)(op:List Nat):Prop:=w.ownsRow base 3 1 v op.length (op.reverse.map fun(k:Nat)=>.int .i64 (k:Int))
structure CU(w0:World)(mb tb:Nat)(ms:List ByteArray)(l:List Nd)(op:List Nat)(lv ov:Value)(W:World):Prop where
 ms:yP W mb tb ms
 row:bV W (mb+2) lv l
 Ku:Ib W (mb+2) ov op
 off:∀b∈an lv,b∉an ov
 KO:∃n:Nd,bA W (mb+1) n.cells
 low:Below w0.heap.size w0 W
 tb:tb<w0.heap.size
 mb:mb=w0.heap.size
theorem CU.sA{P:World}{mb J:Nat}{C:List ByteArray}{l:List Nd}{op:List Nat}{lv I:Value}{W W':World}(h:CU P mb J C l op lv I W)(j:Below W.heap.size W W'):CU P mb J C l op lv I W':=by obtain⟨n,R⟩:=h.KO;exact⟨h.ms.below j,aL h.row j,aL h.Ku j,h.off,⟨n,R.keep (ak j) (by simp)⟩,h.low.trans (j.mono h.low.size),h.tb,h.mb⟩
theorem A7{w R:World}{base e size n n2:Nat}{v C:Value}{vs P:List Value}(h:w.ownsRow base e size v n vs)(o:Obj)(l:R.ownsRow base e size C n2 P)(T:(w.alloc o).grownBy R v.ownBlock)(I:C.ownBlock=v.ownBlock∨C.ownBlock=some (w.alloc o).heap.size):aw w R (an v)∧∀b∈an C,b∈an v∨w.heap.size≤b:=by
 obtain⟨p,c,U⟩:=aq h;obtain⟨p',c',J⟩:=aq l;refine⟨?_,fun b hm=>?_⟩;·rw[U]at T⊢;have:=(ak (ai w o)).trans (aE T);rwa[List.nil_append]at this
 ·have j:=(bh J).2 hm;rcases I with e|e;·rw[e]at j;exact .inl ((bh U).1 j)
  ·rw[e]at j;simp at j;exact .inr (by omega)
theorem CU.push{w0:World}{mb tb:Nat}{ms:List ByteArray}{l:List Nd}{op:List Nat}{lv ov:Value}{W T:World}(h:CU w0 mb tb ms l op lv ov W){n:Nd}(o:Obj){R:Value}(I:T.ownsRow (mb+2) 108 5 R (l.length+1) (l.flatMap Nd.cells++n.cells))(hg:(W.alloc o).grownBy T lv.ownBlock)(U:R.ownBlock=lv.ownBlock∨R.ownBlock=some (W.alloc o).heap.size):CU w0 mb tb ms (l++[n]) op R ov T:=by
 obtain⟨P,hs⟩:=A7 h.row o I hg U;have J:=au h.row;have h2:=au h.Ku;obtain⟨m,hn⟩:=h.KO;have ab:=h.mb;have ac:=h.tb;refine⟨h.ms.keep P (fun j=>by have:=J.lo _ j;omega) (fun j=>by have:=J.lo _ j;omega),?_,aJ h.Ku P (fun b C j=>h.off b j C),fun b C j=>?_,⟨m,hn.keep P (fun j=>by have:=J.lo _ j;omega)⟩,h.low.trans (P.below h.low.size (fun b C=>by have:=J.lo b C;omega)),h.tb,h.mb⟩;·unfold bV;rw[List.length_append,List.flatMap_append];simpa using I
 ·rcases hs b C with C|C;·exact h.off b C j
  ·have:=h2.hi b j;omega
theorem CU.closed{U:World}{mb T:Nat}{R:List ByteArray}{l:List Nd}{k:Nat}{op:List Nat}{lv:Value}{p:Option Addr}{c:Nat}{W:World}(h:CU U mb T R l (k::op) lv (.slice p (op.length+1) c) W):CU U mb T R l op lv (.slice p op.length c) W:=by
 refine⟨h.ms,h.row,?_,fun b J j=>h.off b J (by cases p with|none=>simp[an,aG]at j|some a=>simpa[an,aG]using j),h.KO,h.low,h.tb,h.mb⟩;have P:=h.Ku;unfold Ib at P⊢;obtain⟨h1,I⟩:=P;refine⟨by simp,?_⟩;rcases I with⟨_,I⟩|⟨g,cap,C,e,hg,J,hc,j,hs,ht⟩;·simp at I
 ·injection e with e1 e2 e3;subst e1 e3;refine .inr ⟨g,c,C,rfl,hg,J,by simp at hc;omega,j,hs,?_⟩;have:=congrArg (List.take op.length) ht;rw[List.take_take]at this;simp only[Nat.mul_one,List.length_cons]at this⊢;rw[Nat.min_eq_left (by omega)]at this;rw[this,List.reverse_cons,List.map_append,List.take_left' (by simp)]
theorem rY(l:List Nd):(l.flatMap Nd.cells).length=l.length*5:=by induction l with|nil=>rfl|cons a l ih=>rw[List.flatMap_cons,List.length_append,ih,Nd.aR,List.length_cons];omega
theorem pD{l:List Nd}{i:Nat}(h:i<l.length)(j:Nat)(C:j<5):(l.flatMap Nd.cells)[i*5+j]?=l[i].cells[j]?:=by induction l generalizing i with|nil=>simp at h|cons a l ih=>cases i with|zero=>rw[List.flatMap_cons,Nat.zero_mul,Nat.zero_add,List.getElem?_append_left (by rw[Nd.aR];exact C)];rfl|succ i=>rw[List.flatMap_cons,List.getElem?_append_right (by rw[Nd.aR,Nat.succ_mul];omega),Nd.aR,show(i+1)*5+j-5=i*5+j by rw[Nat.succ_mul];omega];exact ih (by simpa using h)
theorem yT(l:List Nd)(i:Nat)(h:i<l.length):(l.flatMap Nd.cells).set (i*5+3) (.int .i64 (l[i].many+1))=(vo l i).flatMap Nd.cells:=by induction l generalizing i with|nil=>simp at h|cons a l ih=>cases i with|zero=>rfl|succ i=>rw[vo,List.modify_succ_cons,List.flatMap_cons,List.flatMap_cons,List.set_append_right _ _ (by rw[Nd.aR];omega),Nd.aR,show(i+1)*5+3-5=i*5+3 by omega];congr 1;exact ih i (by simpa using h)
theorem CU.more{w0:World}{mb tb:Nat}{U:List ByteArray}{l:List Nd}{op:List Nat}{g c:Nat}{ov:Value}{W:World}(h:CU w0 mb tb U l op (.slice (some ⟨g,0,none⟩) l.length c) ov W){i:Nat}(hi:i<l.length):CU w0 mb tb U (vo l i) op (.slice (some ⟨g,0,none⟩) l.length c) ov (W.setCell ⟨g,i*5+3,none⟩ (.int .i64 (l[i].many+1))):=by
 have C:=aA W g (i*5+3) (.int .i64 (l[i].many+1));have P:g∈an (.slice (some ⟨g,0,none⟩) l.length c):=by simp[an,aG]
 have h1:=(au h.row).lo g P;have ab:=h.mb;have ac:=h.tb;obtain⟨m,hn⟩:=h.KO;refine⟨h.ms.keep C (by simp;omega) (by simp;omega),?_,aJ h.Ku C (fun b j R=>by simp at R;subst R;exact h.off b P j),h.off,⟨m,hn.keep C (by simp;omega)⟩,h.low.trans (C.below h.low.size (fun b j=>by simp at j;omega)),h.tb,h.mb⟩;have T:=h.row;unfold bV at T⊢;obtain⟨h2,h3⟩:=T;rw[rW];refine⟨by rw[rY,rW],?_⟩;rcases h3 with⟨e,_⟩|⟨g',cap,I,e,J,j,h4,h5,h6,h7⟩;·simp at e
 ·injection e with e1 e2 e3;injection e1 with e1;injection e1 with e1;subst e1 e3;refine .inr ⟨g,c,I.setIfInBounds (i*5+3) (.int .i64 (l[i].many+1)),rfl,J,heap_setCell_same _ _ _ _ _ _ j,h4,h5,by simpa using h6,?_⟩;rw[Array.toList_setIfInBounds,List.take_set,h7];exact yT l i hi
def KL(r:Int):Bool:=decide (r<128)&&(zh r||BG r||r==95)
def J1(w:World)(base:Nat)(v:Value)(l:List ByteArray):Prop:=w.ownsRow base 9 1 v l.length (l.map Value.string)
def JP(w:World)(base:Nat)(v:Value)(l:List UInt8):Prop:=w.ownsRow base 5 1 v l.length (l.map fun c=>.int .u8 (c.toNat:Int))
theorem wX(t:ByteArray)(a b:Nat):(t.extract a b).toList=(t.toList.drop a).take (b-a):=by simp only[Go.ByteArray.toList_eq,ByteArray.data_extract,Array.toList_extract]
theorem Jk(x r:List UInt8)(h:x.length≤r.length):x.isPrefixOf r=decide (r.take x.length=x):=by rw[Bool.eq_iff_iff,decide_eq_true_eq,List.isPrefixOf_iff_prefix,List.prefix_iff_eq_take];exact eq_comm
theorem gH(w:World)(n:Nat):aw w (w.drewN n) []:=⟨rfl,rfl,rfl,Nat.le_refl _,fun _ _ _=>rfl⟩
def jJ(x:List UInt8)(t:ByteArray)(j:Nat)(bad:Bool):Bool:=!bad&&x.isPrefixOf (t.toList.drop j)
def k6(x:List UInt8)(t:ByteArray)(j:Nat)(bad:Bool):Nat:=if jJ x t j bad then j+x.length else j
theorem GS{x:List UInt8}{t:ByteArray}{j:Nat}(C:j+x.length≤t.size):x.isPrefixOf (t.toList.drop j)=true↔t.extract j (j+x.length)=ba x:=by
 have e:t.toList.length=t.size:=by rw[Go.ByteArray.toList_eq];rfl
 rw[Jk _ _ (by rw[List.length_drop];omega),decide_eq_true_eq];have l:(t.toList.drop j).take x.length=(t.extract j (j+x.length)).toList:=by rw[wX];congr 1;omega
 rw[l];constructor;·intro h;apply iw;rw[h,cS]
 ·intro h;rw[h,cS]
theorem Is(x:List UInt8)(t:ByteArray)(j rb:Nat)(lv:Value)(R bad:Bool)(w:World)(hx:x.length≤8000)(ht:t.size≤8000)(ac:j≤t.size)(P:bA w rb [.string t,.int .i64 (j:Int),lv,.bool R,.bool bad]):Calls Tryz.prog 178 #[.pointer (some ⟨rb,0,none⟩),.string (ba x)] w fun e w'=>e=.returned (.bool (jJ x t j bad))∧aw w w' [rb]∧bA w' rb [.string t,.int .i64 (k6 x t j bad:Int),lv,.bool R,.bool bad]:=by
 have b0:=P.cell 0 _ rfl;have b1:=P.cell 1 _ rfl;have b4:=P.cell 4 _ rfl;have bz:=P.fz;have C:(ba x).size=x.length:=iM x;obtain⟨X,hX⟩:∃X,ba x=X:=⟨_,rfl⟩;have HX:=aa hX;rw[hX]at C⊢;clear hX;have ab:=aa C;have af:X.size≤8000:=by omega
 have T:Hid (k6 x t j bad=if jJ x t j bad then j+X.size else j):=aa (by rw[C];rfl);obtain⟨A,hA⟩:∃A,k6 x t j bad=A:=⟨_,rfl⟩;rw[hA]at T⊢;clear hA;obtain⟨q,J⟩:∃q,jJ x t j bad=q:=⟨_,rfl⟩;have HQ:=aa J;rw[J]at T⊢;cases bad;·
  by_cases hl:j+x.length≤t.size;·
   have hd:decide ((j:Int)+(X.size:Int)≤(t.size:Int))=true:=by rw[decide_eq_true_eq];omega
   have hi:(j:Int)+(X.size:Int)≤(t.size:Int):=by omega
   have I:=GS hl;rw[HX.out,←C]at I;by_cases U:t.extract j (j+X.size)=X;·
    have l:q=true:=by rw[←J];unfold jJ;rw[I.2 U];rfl
    subst l;clear C hx hl J I;go_enter Tryz.func178,Tryz.ntmps178;go_wp2_with fail;go_quiet(fail);go_wp2_with fail;go_ret;refine⟨rfl,((gH _ _).qk.setCell _ _),?_⟩;rw[T.out];exact(P.keep (gH w _) (by simp)).set 1 (by simp) _
   ·have l:q=false:=by rw[←J];unfold jJ;rw[Bool.eq_false_iff];intro h;exact U (I.1 (by simpa using h))
    subst l;have ad:decide (t.extract j (j+X.size)=X)=false:=by rw[decide_eq_false_iff_not];exact U
    clear C hx hl J I;have HE:=aa U;go_enter Tryz.func178,Tryz.ntmps178;go_wp2_with fail;go_quiet(fail);go_wp2_with fail;all_goals first|exact absurd (iw (eq_of_beq ‹((t.extract j (j+X.size)).toList==X.toList)=true›)) HE.out|(go_ret;refine⟨rfl,(gH _ _).qk,?_⟩;rw[T.out];exact P.keep (gH w _) (by simp))
  ·have hd:decide ((j:Int)+(X.size:Int)≤(t.size:Int))=false:=by rw[decide_eq_false_iff_not];omega
   have l:q=false:=by
    rw[←J];unfold jJ;rw[Bool.eq_false_iff];intro h;simp only[Bool.not_false,Bool.true_and]at h;have:=(List.isPrefixOf_iff_prefix.1 h).length_le;have e:t.toList.length=t.size:=by rw[Go.ByteArray.toList_eq];rfl
    rw[List.length_drop]at this;omega
   subst l;clear C hx hl J;go_enter Tryz.func178,Tryz.ntmps178;go_wp2_with fail;go_quiet(fail);go_wp2_with fail;go_ret;refine⟨rfl,(gH _ _).qk,?_⟩;rw[T.out];exact P.keep (gH w _) (by simp)
 ·have l:q=false:=by rw[←J];rfl
  subst l;clear J;go_enter Tryz.func178,Tryz.ntmps178;go_wp2_with fail;go_region;go_wp2_with fail;go_ret;refine⟨rfl,((aw.refl _).sub (by simp)).drew,?_⟩;rw[T.out];exact P.keep (aw.refl w).drew (by simp)
end Go.Proofs.YtlbcnmcfljaijaaGreat
