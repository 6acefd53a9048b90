import Derived.Test.YtdiiiijkhpdcbaaGreatDoorRD16
import Derived.Deep.RegionLaw
namespace Go.Proofs.YtdiiiijkhpdcbaaGreatDoor
open Go.RowKit
set_option linter.unusedSimpArgs false
set_option linter.unusedVariables false
set_option maxHeartbeats 4000000
set_option maxRecDepth 100000
section
attribute [local go_sem ↓] Go.wp_at_zero Go.wp_at_succ
theorem Ah(n:Nd)(w:World)(T mb base nf:Nat)(sv ev:Value)(W:Wv)(hn:n.name.size≤1048576∧n.peer.size≤1048576)(hl:W.sts.length≤1000)(h:gW w T mb base sv ev nf W):Calls Tryz.prog 286 #[.pointer (some ⟨T,0,none⟩),n.val] w fun e w'=>∃an,e=.returned (.int .i64 (W.sts.length:Int))∧gW w' T mb base an ev nf ⟨W.sts++[⟨eE n.op,n.peer⟩],W.eds,W.fs⟩∧gB w w' base [T]∧aI w w' (aj sv++[T]):=by have H:=aa h;have HN:=aa hn;obtain⟨i0,hi,ad,af,ah⟩:=info_parts Tryz.mr;have HI:=aa (And.intro hi (And.intro ad (And.intro af ah)));obtain⟨ps,cs,rfl⟩:=ak h.st;obtain⟨pe,ce,rfl⟩:=ak h.ed;have k0:=h.box.cell 0 _ rfl;have aq:T<w.heap.size:=h.box.lt;have HF:=aa (And.intro h.box.fz (And.intro h.low h.sz));obtain⟨op,name,I,many,sort⟩:=n;clear h hn hi ad af ah;unfold Nd.val;go_enter Tryz.func286,Tryz.ntmps286;go_wp2_with fail;go_region_law(first|(go_simp;go_at_call 305;refine(xJ op _).mono ?_;rintro e w2⟨rfl,al⟩;subst al)|(go_simp;go_at_call 243;refine(s7 I _ HN.out.2).mono ?_;rintro e w3⟨rfl,ac⟩;have U:Hid (Below w.heap.size w w3):=aa ((aE w _).drew.trans (ac.mono (by simp)));have l:=aa (H.out.below U.out);have f0:=l.out.box.cell 0 _ rfl;have ao:∀o:Obj,(w3.alloc o).cell? ⟨T,0,none⟩=some (.slice ps W.sts.length cs):=(fun o=>(l.out.box.aD (ag (ae w3 o)) (by simp)).cell 0 _ rfl);clear ac)|(refine fY rfl (.tmp 17) (.tmp 25) 63 rfl base 152 i0 (.agg #[.int .i64 0,.string ByteArray.empty]) 2 24 Tryz.underlying63 HI.out.1 HI.out.2.1 HI.out.2.2.1 HI.out.2.2.2 rfl (by decide) (.slice ps W.sts.length cs) W.sts.length (W.sts.flatMap aK.cells) (by simp[Act.eval]) (l.out.st.below (ae w3 (.cells #[.int .i64 (eE op),.string I] 152))) ⟨w3.heap.size,0,none⟩ 1 1 (aK.cells ⟨eE op,I⟩) (by simp[Act.eval]) rfl (fun j u hj=>dI w3 _ _ j u hj) (aK.cells_one _) (by unfold maxLen;omega) (by omega) (by have:=l.out.sz;simp;omega) ?_;intro v4 w4 C J P;have R:=aa (D6 l.out ⟨eE op,I⟩ _ C J P U.out HF.out.2.2);have ab:=aa (vp l.out l.out.st (Nat.le_refl _) J);have l0:=ab.out.cell 0 _ rfl;have lz:=ab.out.fz;obtain⟨p4,c4,rfl⟩:=ak C;clear C J P));all_goals go_wp2_with fail;go_ret;exact⟨_,rfl,R.out.1,R.out.2.1,R.out.2.2⟩
end
end Go.Proofs.YtdiiiijkhpdcbaaGreatDoor
