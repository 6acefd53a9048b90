import Derived.Test.YtlbcnmcfljaijaaGreatQN20
import Derived.Test.YtlbcnmcfljaijaaGreatQN13
import Derived.Test.YtlbcnmcfljaijaaGreatQN19
import Derived.Laws.Rows
import Derived.Laws.MakeOwn
import Derived.Test.YtlbcnmcfljaijaaGreatQN01
import Derived.Sort.OwnSorted
namespace Go.Proofs.YtlbcnmcfljaijaaGreat
open Go.RowKit
set_option linter.unusedSimpArgs false
set_option linter.unusedVariables false
set_option maxHeartbeats 400000
set_option maxRecDepth 100000
theorem bR.jc{w:World}{B:Nat}{v:Value}{ns:List Nd}(h:bR w B v ns):ns.length≤4294967296:=by obtain⟨j,cap,_,l,C,_⟩:=h;omega
theorem bR.up{w:World}{B l:Nat}{v:Value}{ns:List Nd}(h:bR w B v ns)(hB:B≤l):bR w l v ns:=by obtain⟨C,cap,I,J,P,R⟩:=h;refine⟨C,cap,I,J,P,fun j=>?_⟩;obtain⟨b,o,e,T,U⟩:=R j;exact⟨b,o,e,by omega,U⟩
theorem DE(j:List ByteArray):∀acc:List ByteArray,(j.foldl kL acc).length≤acc.length+j.length:=by induction j with|nil=>intro acc;simp|cons t j ih=>intro acc;have l:=ih (kL acc t);have C:=FQ acc t;simp only[List.foldl_cons,List.length_cons];omega
theorem zw(ns:List Nd):(iS ns).length≤2*ns.length:=by
 have:∀(l:List Nd)(acc:List ByteArray),(l.foldl lL acc).length≤acc.length+2*l.length:=by intro l;induction l with|nil=>intro acc;simp|cons n l ih=>intro acc;have j:=ih (lL acc n);have C:=DE (dc n) acc;have I:=qW n;simp only[List.foldl_cons,List.length_cons];rw[lL]at j⊢;omega
 have h:=this ns [];simpa[iS]using h
theorem u1(ns:List Nd)(v:Value)(w:World)(T:∀n∈ns,n.fit)(hv:bR w w.heap.size v ns):Calls Tryz.prog 68 #[v] w fun e w'=>e=.returned (.bool (EL ns))∧Below w.heap.size w w':=by
 have HV:=aa hv;have HF:=aa T;have ay:=aa hv.jc;obtain⟨ao,cap,rfl,hc,hm,hr⟩:=hv;have HB:=aa (show EL ns=(decide (ns.length≤40)&&((ahead cP 10 [] ns).map List.length==some 0&&decide ((iS ns).length≤4)))from rfl);clear hr T;by_cases hl:ns.length≤40;·
  cases ha:ahead cP 10 [] ns with
   |none=>have I:=aa ha;clear ha;go_enter Tryz.func68,Tryz.ntmps68;go_wp2_with(go_at_call 98;refine(oh 10 [] ns _ _ _ w.heap.size rfl (fun n hn=>(HF.out n hn).ok) (Nat.le_refl _) HV.out rfl).mono ?_;rintro e w1⟨⟨v1,rfl,j⟩,C⟩;rw[I.out,Option.isSome_none];have l:=aa C;clear j C);go_ret;refine⟨aF ?_,l.out⟩;rw[HB.out,I.out];simp|some r=>
    have I:=aa ha;clear ha;cases ad:((r.length:Int)==0);·
     have J:=aa ad;go_enter Tryz.func68,Tryz.ntmps68;go_wp2_with(go_at_call 98;refine(oh 10 [] ns _ _ _ w.heap.size rfl (fun n hn=>(HF.out n hn).ok) (Nat.le_refl _) HV.out rfl).mono ?_;rintro e w1⟨⟨v1,rfl,j⟩,C⟩;rw[I.out]at j⊢;rw[Option.isSome_some];replace j:=j r rfl;obtain⟨ah,R,rfl,P⟩:=j;have l:=aa C;clear P C);go_ret;refine⟨aF ?_,l.out⟩;rw[HB.out,I.out];have U:=J.out;rw[beq_eq_false_iff_ne]at U;have h1:¬r=[]:=by intro h;rw[h]at U;simp at U
     simp[h1]
    ·have J:=aa ad;go_enter Tryz.func68,Tryz.ntmps68;go_wp2_with(first|(go_at_call 98;refine(oh 10 [] ns _ _ _ w.heap.size rfl (fun n hn=>(HF.out n hn).ok) (Nat.le_refl _) HV.out rfl).mono ?_;rintro e w1⟨⟨v1,rfl,j⟩,C⟩;rw[I.out]at j⊢;rw[Option.isSome_some];replace j:=j r rfl;obtain⟨ah,R,rfl,P⟩:=j;have l:=aa C;clear P C)|(go_at_call 99;refine(Gi wO ns _ _ HF.out ((HV.out.carry l.out).up l.out.size) hl).mono ?_;rintro e w2⟨v2,rfl,ac,ab⟩;have ag:=aa (bS ac (by have:=zw ns;omega));obtain⟨az,ax,rfl,av⟩:=ag.out;have af:=aa ab;clear av ab ac));go_ret;refine⟨aF ?_,l.out.trans (af.out.mono l.out.size)⟩;rw[HB.out,I.out];have U:=J.out;rw[beq_iff_eq]at U;have h1:r=[]:=List.length_eq_zero_iff.1 (by omega);have e:decide (((iS ns).length:Int)≤4)=decide ((iS ns).length≤4):=by rw[decide_eq_decide];omega
     rw[e];simp[h1,hl]
 ·go_enter Tryz.func68,Tryz.ntmps68;go_wp2_with fail;go_ret;refine⟨aF ?_,Below.refl _ _⟩;rw[HB.out,decide_eq_false hl];rfl
theorem GN(w:World)(a:Int)(t:TypeId):nA (w.alloc (.cells #[.int .i64 a] t)) (.slice (some ⟨w.heap.size,0,none⟩) 1 1) [a]:=by refine⟨_,_,rfl,by simp,by simp,fun _=>⟨_,_,rfl,fun i hi=>?_⟩⟩;match i,hi with|0,_=>simp
theorem zr(ns:List Nd)(v:Value)(w:World)(I:∀n∈ns,n.fit)(hv:bR w w.heap.size v ns):Calls Tryz.prog 28 #[v] w fun e w'=>e=.returned (.bool (cL true ns))∧Below w.heap.size w w':=by
 have T:=aa hv;have HF:=aa I;have U:=aa (right_eq true ns);obtain⟨ao,cap,rfl,hc,hm,hr⟩:=hv;obtain⟨rb,P⟩:∃rb,EL ns=rb:=⟨_,rfl⟩;have C:=aa P;clear hr I P;cases rb;·go_enter Tryz.func28,Tryz.ntmps28;go_wp2_with(go_at_call 68;refine(u1 ns _ _ HF.out T.out).mono ?_;rintro e w1⟨rfl,l⟩;rw[C.out];have j:=aa l;clear l);go_ret;exact⟨aF (by rw[←U.out,C.out];rfl),j.out⟩
 ·go_enter Tryz.func28,Tryz.ntmps28;go_wp2_with(first|(go_at_call 68;refine(u1 ns _ _ HF.out T.out).mono ?_;rintro e w1⟨rfl,l⟩;rw[C.out];have j:=aa l;clear l)|(go_at_call 69;refine(DL [3] ns _ _ _ ((T.out.carry (j.out.trans ((aC _ _).mono j.out.size))).up (j.out.trans ((aC _ _).mono j.out.size)).size) (GN _ _ _)).mono ?_;rintro e w2⟨rfl,J⟩;have R:=aa J;clear J));go_ret;refine⟨aF ?_,(j.out.trans ((aC _ _).mono j.out.size)).trans (R.out.mono (j.out.trans ((aC _ _).mono j.out.size)).size)⟩;rw[←U.out,C.out,Bool.true_and];congr 2;funext n;simp[fW,re]
theorem Gb(T:Nd→Bool)(ns:List Nd):(endPos ns (ahead T 10 [] ns)==(ns.length:Int))=((ahead T 10 [] ns).map List.length==some 0):=by
 cases C:ahead T 10 [] ns with
  |none=>
   have j:(endPos ns none==(ns.length:Int))=false:=by rw[beq_eq_false_iff_ne];simp only[endPos];omega
   rw[j];rfl|some r=>
   have J:=(dn T 10 [] ns r C).length_le;have I:0<ns.length:=by cases ns with|nil=>cases C|cons=>simp
   simp only[endPos,Option.map_some];by_cases l:r.length=0;·
    have j:(((ns.length-r.length:Nat):Int)==(ns.length:Int))=true:=by rw[beq_iff_eq];omega
    rw[j,l];rfl
   ·have j:(((ns.length-r.length:Nat):Int)==(ns.length:Int))=false:=by rw[beq_eq_false_iff_ne];omega
    rw[j];symm;rw[beq_eq_false_iff_ne];intro h;injection h with h;exact l h
theorem D9{w:World}{ns:List Nd}{C:Option Addr}{cap:Nat}(h:bR w w.heap.size (.slice C ns.length cap) ns)(j:Bool)(t:TypeId):ie (w.alloc (.cells #[.slice C ns.length cap,.bool j] t)) w.heap.size j ns:=by
 obtain⟨I,l,e,R,h2,T⟩:=h;obtain⟨rfl,rfl⟩:C=I∧cap=l:=by simpa using e
 refine⟨C,cap,by simp,by simp,R,by omega,fun P=>?_⟩;obtain⟨b,o,rfl,J,U⟩:=T P;exact⟨b,o,rfl,U.carry J (aC _ _)⟩
theorem rE(j:Bool)(ns:List Nd)(v:Value)(w:World)(T:∀n∈ns,n.fit)(hv:bR w w.heap.size v ns):Calls Tryz.prog 83 #[v,.bool j] w fun e w'=>e=.returned (.bool (cL j ns))∧Below w.heap.size w w':=by
 have HV:=aa hv;have HF:=aa T;have P:=aa (Gb (aQ j) ns);have HB:=aa (show cL j ns=(decide (ns.length≤40)&&((ahead (aQ j) 10 [] ns).map List.length==some 0&&decide ((lq ns).length≤4)))from rfl);obtain⟨ao,cap,rfl,hc,hm,hr⟩:=hv;clear hr T;by_cases hl:ns.length≤40;·
  have R:=aa (fun t=>D9 HV.out j t);obtain⟨ep,ab⟩:∃ep,endPos ns (ahead (aQ j) 10 [] ns)=ep:=⟨_,rfl⟩;obtain⟨eb,ad⟩:∃eb,(ep==(ns.length:Int))=eb:=⟨_,rfl⟩;have I:=aa ab;have J:=aa ad;clear ab;cases eb;·go_enter Tryz.func83,Tryz.ntmps83;go_wp2_with(go_at_call 119;refine(ur j 10 [] ns 0 _ _ _ _ _ _ rfl trivial (fun n hn=>(HF.out n hn).ok) rfl (Nat.zero_le _) rfl rfl (R.out _) ⟨none,0,rfl,Nat.le_refl _,by simp[aM],fun h=>absurd rfl h⟩ (fun _=>rfl)).mono ?_;rintro e w1⟨rfl,C⟩;rw[List.drop_zero,I.out];have l:Hid (Below w.heap.size w w1):=aa ((aC _ _).trans (C.mono (by simp)));clear C);go_ret;refine⟨aF ?_,l.out⟩;have h:=P.out;rw[I.out,J.out]at h;rw[HB.out,←h];simp
  ·go_enter Tryz.func83,Tryz.ntmps83;go_wp2_with(first|(go_at_call 119;refine(ur j 10 [] ns 0 _ _ _ _ _ _ rfl trivial (fun n hn=>(HF.out n hn).ok) rfl (Nat.zero_le _) rfl rfl (R.out _) ⟨none,0,rfl,Nat.le_refl _,by simp[aM],fun h=>absurd rfl h⟩ (fun _=>rfl)).mono ?_;rintro e w1⟨rfl,C⟩;rw[List.drop_zero,I.out];have l:Hid (Below w.heap.size w w1):=aa ((aC _ _).trans (C.mono (by simp)));clear C)|(go_at_call 120;refine(G9 ns _ _ ((HV.out.carry l.out).up l.out.size) hl).mono ?_;rintro e w2⟨v2,rfl,af,U⟩;obtain⟨b2,o2,ah,rfl,ag⟩:=af;have ac:=aa U;clear ag U));go_ret;refine⟨aF ?_,l.out.trans (ac.out.mono l.out.size)⟩;have h:=P.out;rw[I.out,J.out]at h;have e:decide (((lq ns).length:Int)≤4)=decide ((lq ns).length≤4):=by rw[decide_eq_decide];omega
   rw[HB.out,←h,e];simp[hl]
 ·go_enter Tryz.func83,Tryz.ntmps83;go_wp2_with fail;go_ret;refine⟨aF ?_,Below.refl _ _⟩;rw[HB.out,decide_eq_false hl];rfl
theorem ym(ns:List Nd)(v:Value)(w:World)(j:∀n∈ns,n.fit)(I:bR w w.heap.size v ns):Calls Tryz.prog 93 #[v] w fun e w'=>e=.returned (.bool (cL false ns))∧Below w.heap.size w w':=by have P:=aa I;have J:=aa j;obtain⟨ao,cap,rfl,R,T,U⟩:=I;clear U j R T;go_enter Tryz.func93,Tryz.ntmps93;go_wp2_with(go_at_call 83;refine(rE false ns _ _ J.out P.out).mono ?_;rintro e w1⟨rfl,l⟩;have C:=aa l;clear l);go_ret;exact⟨aF rfl,C.out⟩
theorem yk(ns:List Nd)(v:Value)(w:World)(j:∀n∈ns,n.fit)(I:bR w w.heap.size v ns):Calls Tryz.prog 47 #[v] w fun e w'=>e=.returned (.bool (cL true ns))∧Below w.heap.size w w':=by have P:=aa I;have J:=aa j;obtain⟨ao,cap,rfl,R,T,U⟩:=I;clear U j R T;go_enter Tryz.func47,Tryz.ntmps47;go_wp2_with(go_at_call 83;refine(rE true ns _ _ J.out P.out).mono ?_;rintro e w1⟨rfl,l⟩;have C:=aa l;clear l);go_ret;exact⟨aF rfl,C.out⟩
section
open Go.RowKit Go.Sort
end
end Go.Proofs.YtlbcnmcfljaijaaGreat
