import Derived.Test.YtlbcnmcfljaijaaGreatQN24
import Derived.Deep.RegionLaw
namespace Go.Proofs.YtlbcnmcfljaijaaGreat
open Go.RowKit
set_option linter.unusedSimpArgs false
set_option linter.unusedVariables false
set_option maxHeartbeats 4000000
set_option maxRecDepth 100000
section
attribute [local go_sem ↓] Go.wp_at_zero Go.wp_at_succ
theorem Bu(n:Nd)(w:World)(T mb base nf:Nat)(sv ev:Value)(W:Wv)(hn:n.name.size≤1048576∧n.peer.size≤1048576)(hl:W.sts.length≤1000)(h:gW w T mb base sv ev nf W):Calls Tryz.prog 70 #[.pointer (some ⟨T,0,none⟩),n.val] w fun e w'=>∃ao,e=.returned (.int .i64 (W.sts.length:Int))∧gW w' T mb base ao ev nf ⟨W.sts++[⟨dW n.op,n.peer⟩],W.eds,W.fs⟩∧Kept w w' base [T]∧aw w w' (an sv++[T]):=by have H:=aa h;have HN:=aa hn;obtain⟨i0,hi,ad,af,ag⟩:=info_parts Tryz.jz;have HI:=aa (And.intro hi (And.intro ad (And.intro af ag)));obtain⟨ps,cs,rfl⟩:=aq h.st;obtain⟨pe,ce,rfl⟩:=aq h.ed;have k0:=h.box.cell 0 _ rfl;have ax:T<w.heap.size:=h.box.lt;have HF:=aa (And.intro h.box.fz (And.intro h.low h.sz));obtain⟨op,name,I,many,sort⟩:=n;clear h hn hi ad af ag;unfold Nd.val;go_enter Tryz.func70,Tryz.ntmps70;go_wp2_with fail;go_region_law(first|(go_simp;go_at_call 101;refine(zf op _).mono ?_;rintro e w2⟨rfl,ah⟩;subst ah)|(go_simp;go_at_call 77;refine(ue I _ HN.out.2).mono ?_;rintro e w3⟨rfl,ac⟩;have U:Hid (Below w.heap.size w w3):=aa ((aC w _).drew.trans (ac.mono (by simp)));have l:=aa (H.out.below U.out);have f0:=l.out.box.cell 0 _ rfl;have av:∀o:Obj,(w3.alloc o).cell? ⟨T,0,none⟩=some (.slice ps W.sts.length cs):=(fun o=>(l.out.box.keep (ak (ai w3 o)) (by simp)).cell 0 _ rfl);clear ac)|(refine fF rfl (.tmp 17) (.tmp 25) 25 rfl base 75 i0 (.agg #[.int .i64 0,.string ByteArray.empty]) 2 24 Tryz.underlying25 HI.out.1 HI.out.2.1 HI.out.2.2.1 HI.out.2.2.2 rfl (by decide) (.slice ps W.sts.length cs) W.sts.length (W.sts.flatMap aB.cells) (by simp[Act.eval]) (l.out.st.below (ai w3 (.cells #[.int .i64 (dW op),.string I] 75))) ⟨w3.heap.size,0,none⟩ 1 1 (aB.cells ⟨dW op,I⟩) (by simp[Act.eval]) rfl (fun j u hj=>dh w3 _ _ j u hj) (aB.cells_one _) (by unfold maxLen;omega) (by omega) (by have:=l.out.sz;simp;omega) ?_;intro v4 w4 C J P;have R:=aa (Fx l.out ⟨dW op,I⟩ _ C J P U.out HF.out.2.2);have ab:=aa (wJ l.out l.out.st (Nat.le_refl _) J);have l0:=ab.out.cell 0 _ rfl;have lz:=ab.out.fz;obtain⟨p4,c4,rfl⟩:=aq C;clear C J P));all_goals go_wp2_with fail;go_ret;exact⟨_,rfl,R.out.1,R.out.2.1,R.out.2.2⟩
end
end Go.Proofs.YtlbcnmcfljaijaaGreat
