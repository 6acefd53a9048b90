import Derived.Test.YtdiiiijkhpdcbaaGreatDoorRD11
namespace Go.Proofs.YtdiiiijkhpdcbaaGreatDoor
open Go.RowKit
set_option linter.unusedSimpArgs false
set_option linter.unusedVariables false
set_option maxHeartbeats 1000000
set_option maxRecDepth 100000
theorem Ga(part:Bool)(f:Nat)(st all:List Nd)(C bx:Nat)(a d op:Int)(rv:Value)(w:World)(R:st.length+f=10)(ac:jc st)(ok:∀n∈all,n.ok)(ha:a=C)(P:C<all.length)(hd:d=(st.length+1:Nat))(an:op=dJ st)(hx:hG w bx part all)(hr:bI w rv (aU st))(T:aU st=[]→rv=.slice none 0 0)(name l:ByteArray)(many I:Int)(hn:all[C]=⟨0,name,l,many,I⟩):Calls Tryz.prog 232 #[.pointer (some ⟨bx,0,none⟩),.int .i64 a,.int .i64 d,rv,.int .i64 op] w fun e w'=>e=.returned (.int .i64 (endPos all (ahead (bA part) f st (all.drop C))))∧Below w.heap.size w w':=by
 have HX:=aa hx;have HR:=aa hr;have HO:=aa ok;have HL:=aa R;have az:=aa ac;have ao:=aa T;obtain⟨i0,hi,ad,af,ah⟩:=info_parts Tryz.lh;have HI:=aa (And.intro hi (And.intro ad (And.intro af ah)));obtain⟨a5,aq,rfl,a6,a7,-⟩:=hr;subst ha hd an;obtain⟨a8,av,x0,x1,x2,x3,x4⟩:=hx;obtain⟨b,o,rfl,U⟩:=x4 (by intro h;simp[h]at P);have J:=U.get C P;have j:=aa (show all.drop C=⟨0,name,l,many,I⟩::all.drop (C+1)by rw[←hn];exact ib P);have ax:=aa (show Nd.ok ⟨0,name,l,many,I⟩by rw[←hn];exact HO.out _ (List.getElem_mem P));have ab:=aa (kb P);rw[hn]at J;obtain⟨c0,c1,c2,c3,c4⟩:=J;dsimp only at c0 c1 c2 c3 c4;have aM:b<w.heap.size:=World.block_lt_of_cell? w _ c0;have al:bx<w.heap.size:=World.block_lt_of_cell? w _ x0;have aL:Hid (∀ob,(w.alloc ob).cell? ⟨bx,1,none⟩=some (.bool part)):=aa (fun ob=>((aE w ob).cell (p:=⟨bx,1,none⟩) al).trans x1);have a0:decide ((all.length:Int)≤(C:Int))=false:=decide_eq_false (by omega);have aN:st.length≤10:=by omega
 have ay:=aa (ft st);have aR:dJ st≤(aU st).length:=ft st;have a1:(aU st).length≤10:=by have:=jo st;omega
 clear U hn ok R ac x4 hi ad af ah T;by_cases q1:l.toList=[];·
  by_cases q2:many=0;·
   by_cases q3:I=0;·
    skip;by_cases q4:name.toList=[];·go_enter Tryz.func232,Tryz.ntmps232;go_wp2_with fail;go_ret;refine⟨bd ?_,(by repeat(first|exact aE _ _|exact Below.refl _ _|refine Below.drew ?_))⟩;rw[j.out,cQ rfl,if_pos (by simp[gX, *])];exact ab.out
    ·go_enter Tryz.func232,Tryz.ntmps232;go_wp2_with fail;all_goals go_ret;refine⟨bd ?_,(by repeat(first|exact aE _ _|exact Below.refl _ _|refine Below.drew ?_))⟩;rw[j.out,cQ rfl];first|(rw[if_neg (by simp[gX, *])];rfl)|(rw[if_pos (by simp[gX, *])];exact ab.out)
   ·have a4:(I==0)=false:=beq_eq_false_iff_ne.2 q3;go_enter Tryz.func232,Tryz.ntmps232;go_wp2_with fail;go_ret;refine⟨bd ?_,(by repeat(first|exact aE _ _|exact Below.refl _ _|refine Below.drew ?_))⟩;rw[j.out,cQ rfl,if_neg (by simp[gX, *])];rfl
  ·have a3:(many==0)=false:=beq_eq_false_iff_ne.2 q2;go_enter Tryz.func232,Tryz.ntmps232;go_wp2_with fail;go_ret;refine⟨bd ?_,(by repeat(first|exact aE _ _|exact Below.refl _ _|refine Below.drew ?_))⟩;rw[j.out,cQ rfl,if_neg (by simp[gX, *])];rfl
 ·have a2:(l.toList==[])=false:=beq_eq_false_iff_ne.2 q1;go_enter Tryz.func232,Tryz.ntmps232;go_wp2_with fail;go_ret;refine⟨bd ?_,(by repeat(first|exact aE _ _|exact Below.refl _ _|refine Below.drew ?_))⟩;rw[j.out,cQ rfl,if_neg (by simp[gX, *])];rfl
end Go.Proofs.YtdiiiijkhpdcbaaGreatDoor
