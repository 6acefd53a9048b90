import Derived.Test.YtdiiiijkhpdcbaaGreatDoorRD11
namespace Go.Proofs.YtdiiiijkhpdcbaaGreatDoor
open Go.RowKit
set_option linter.unusedSimpArgs false
set_option linter.unusedVariables false
set_option maxHeartbeats 1000000
set_option maxRecDepth 100000
theorem Ci(part:Bool)(f:Nat)(st all:List Nd)(I bx:Nat)(a d op:Int)(rv:Value)(w:World)(ab:st.length+f=10)(ao:jc st)(ok:∀n∈all,n.ok)(ha:a=I)(R:I<all.length)(hd:d=(st.length+1:Nat))(aL:op=dJ st)(hx:hG w bx part all)(hr:bI w rv (aU st))(ac:aU st=[]→rv=.slice none 0 0)(name l:ByteArray)(many C:Int)(U:f=0∨(iD ⟨2,name,l,many,C⟩&&!bW st name)=false)(hn:all[I]=⟨2,name,l,many,C⟩):Calls Tryz.prog 232 #[.pointer (some ⟨bx,0,none⟩),.int .i64 a,.int .i64 d,rv,.int .i64 op] w fun e w'=>e=.returned (.int .i64 (endPos all (ahead (bA part) f st (all.drop I))))∧Below w.heap.size w w':=by
 have HX:=aa hx;have HR:=aa hr;have HO:=aa ok;have HL:=aa ab;have a2:=aa ao;have aM:=aa ac;obtain⟨i0,hi,av,ax,ay⟩:=info_parts Tryz.lh;have HI:=aa (And.intro hi (And.intro av (And.intro ax ay)));obtain⟨bk,aN,rfl,bl,bm,-⟩:=hr;subst ha hd aL;obtain⟨bn,aR,x0,x1,x2,x3,x4⟩:=hx;obtain⟨b,o,rfl,ad⟩:=x4 (by intro h;simp[h]at R);have P:=ad.get I R;have j:=aa (show all.drop I=⟨2,name,l,many,C⟩::all.drop (I+1)by rw[←hn];exact ib R);have af:=aa (show Nd.ok ⟨2,name,l,many,C⟩by rw[←hn];exact HO.out _ (List.getElem_mem R));have a1:=aa (kb R);rw[hn]at P;obtain⟨c0,c1,c2,c3,c4⟩:=P;dsimp only at c0 c1 c2 c3 c4;have a4:b<w.heap.size:=World.block_lt_of_cell? w _ c0;have az:bx<w.heap.size:=World.block_lt_of_cell? w _ x0;have a3:Hid (∀ob,(w.alloc ob).cell? ⟨bx,1,none⟩=some (.bool part)):=aa (fun ob=>((aE w ob).cell (p:=⟨bx,1,none⟩) az).trans x1);have a8:decide ((all.length:Int)≤(I:Int))=false:=decide_eq_false (by omega);have a6:st.length≤10:=by omega
 have a0:=aa (ft st);have a7:dJ st≤(aU st).length:=ft st;have a9:(aU st).length≤10:=by have:=jo st;omega
 clear ad hn ok ab ao x4 hi av ax ay ac;have ah:=aa U;clear U;have al:=aa (fU st name);obtain⟨wo,aq⟩:∃wo,db name=wo:=⟨_,rfl⟩;obtain⟨am,an⟩:∃am,b8 (aU st) name=am:=⟨_,rfl⟩;have J:=aa aq;have T:=aa an;clear an aq;by_cases q1:l.toList=[];·
  by_cases q2:many=0;·
   by_cases q3:C=0;·
    skip;cases wo;·
     go_enter Tryz.func232,Tryz.ntmps232;go_wp2_with(go_at_call 259;refine(il name _ af.out.1).mono ?_;rintro e w1⟨rfl,rfl⟩;rw[J.out]);go_ret;refine⟨bd ?_,(by repeat(first|exact aE _ _|exact Below.refl _ _|refine Below.drew ?_))⟩;rw[j.out];cases f;·rw[eB rfl];rfl
     ·rw[dj rfl,if_neg (by simp[iD,J.out])];rfl
    ·cases am;·
      cases f with
       |zero=>have a5:decide ((st.length:Int)+1≤10)=false:=decide_eq_false (by have:=HL.out;omega);go_enter Tryz.func232,Tryz.ntmps232;go_wp2_with(first|(go_at_call 259;refine(il name _ af.out.1).mono ?_;rintro e w1⟨rfl,rfl⟩;rw[J.out])|(go_at_call 131;refine(fw (aU st) name _ _ (HR.out.carry (by repeat(first|exact aE _ _|exact Below.refl _ _|refine Below.drew ?_)))).mono ?_;rintro e w1⟨rfl,rfl⟩;rw[T.out]));go_ret;refine⟨bd ?_,(by repeat(first|exact aE _ _|exact Below.refl _ _|refine Below.drew ?_))⟩;rw[j.out,eB rfl];rfl|succ f=>
        exfalso;rcases ah.out with h|h;·omega
        ·rw[al.out,T.out]at h;simp[iD,J.out,q1,q2,q3]at h
     ·go_enter Tryz.func232,Tryz.ntmps232;go_wp2_with(first|(go_at_call 259;refine(il name _ af.out.1).mono ?_;rintro e w1⟨rfl,rfl⟩;rw[J.out])|(go_at_call 131;refine(fw (aU st) name _ _ (HR.out.carry (by repeat(first|exact aE _ _|exact Below.refl _ _|refine Below.drew ?_)))).mono ?_;rintro e w1⟨rfl,rfl⟩;rw[T.out]));go_ret;refine⟨bd ?_,(by repeat(first|exact aE _ _|exact Below.refl _ _|refine Below.drew ?_))⟩;rw[j.out];cases f;·rw[eB rfl];rfl
      ·rw[dj rfl,if_neg (by rw[al.out];simp[T.out])];rfl
   ·have bi:(C==0)=false:=beq_eq_false_iff_ne.2 q3;go_enter Tryz.func232,Tryz.ntmps232;go_wp2_with fail;go_ret;refine⟨bd ?_,(by repeat(first|exact aE _ _|exact Below.refl _ _|refine Below.drew ?_))⟩;rw[j.out];cases f;·rw[eB rfl];rfl
    ·rw[dj rfl,if_neg (by simp[iD, *])];rfl
  ·have bf:(many==0)=false:=beq_eq_false_iff_ne.2 q2;go_enter Tryz.func232,Tryz.ntmps232;go_wp2_with fail;go_ret;refine⟨bd ?_,(by repeat(first|exact aE _ _|exact Below.refl _ _|refine Below.drew ?_))⟩;rw[j.out];cases f;·rw[eB rfl];rfl
   ·rw[dj rfl,if_neg (by simp[iD, *])];rfl
 ·have bb:(l.toList==[])=false:=beq_eq_false_iff_ne.2 q1;go_enter Tryz.func232,Tryz.ntmps232;go_wp2_with fail;go_ret;refine⟨bd ?_,(by repeat(first|exact aE _ _|exact Below.refl _ _|refine Below.drew ?_))⟩;rw[j.out];cases f;·rw[eB rfl];rfl
  ·rw[dj rfl,if_neg (by simp[iD, *])];rfl
end Go.Proofs.YtdiiiijkhpdcbaaGreatDoor
