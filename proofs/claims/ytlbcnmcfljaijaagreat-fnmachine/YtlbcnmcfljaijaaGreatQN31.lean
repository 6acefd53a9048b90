import Derived.Test.YtlbcnmcfljaijaaGreatQN24
import Derived.Deep.RegionLaw
namespace Go.Proofs.YtlbcnmcfljaijaaGreat
open Go.RowKit
set_option linter.unusedSimpArgs false
set_option linter.unusedVariables false
set_option maxHeartbeats 4000000
set_option maxRecDepth 100000
section
attribute [local go_sem ↓] Go.wp_at_zero Go.wp_at_succ
theorem Dc(n:Nd)(l P:Int)(w:World)(wb mb base nf:Nat)(sv ev:Value)(W:Wv)(hn:n.name.size≤1048576∧n.peer.size≤1048576)(hl:W.eds.length≤1000)(h:gW w wb mb base sv ev nf W):Calls Tryz.prog 71 #[.pointer (some ⟨wb,0,none⟩),.int .i64 l,n.val,.int .i64 P] w fun e w'=>∃ah,e=.returned (.tuple #[])∧gW w' wb mb base sv ah nf ⟨W.sts,W.eds++[⟨l,n.name,n.sort,P⟩],W.fs⟩∧Kept w w' base [wb]∧aw w w' (an ev++[wb]):=by have H:=aa h;have HN:=aa hn;obtain⟨i0,hi,ad,af,ag⟩:=info_parts Tryz.kn;have HI:=aa (And.intro hi (And.intro ad (And.intro af ag)));obtain⟨ps,cs,rfl⟩:=aq h.st;obtain⟨pe,ce,rfl⟩:=aq h.ed;have k0:=h.box.cell 1 _ rfl;have ax:wb<w.heap.size:=h.box.lt;have HF:=aa (And.intro h.box.fz (And.intro h.low h.sz));obtain⟨op,name,ao,many,sort⟩:=n;clear h hn hi ad af ag;unfold Nd.val;go_enter Tryz.func71,Tryz.ntmps71;go_wp2_with fail;go_region_law(first|(go_simp;go_at_call 77;refine(ue name _ HN.out.1).mono ?_;rintro e w3⟨rfl,U⟩;have ab:Hid (Below w.heap.size w w3):=aa ((aC w _).drew.trans (U.mono (by simp)));have C:=aa (H.out.below ab.out);have f0:=C.out.box.cell 1 _ rfl;have av:∀o:Obj,(w3.alloc o).cell? ⟨wb,1,none⟩=some (.slice pe W.eds.length ce):=(fun o=>(C.out.box.keep (ak (ai w3 o)) (by simp)).cell 1 _ rfl);have g4:w3.cell? ⟨w.heap.size,4,none⟩=some (.int .i64 sort):=(U.cell (p:=⟨w.heap.size,4,none⟩) (by simp)).trans (by simp);clear U)|(refine fF rfl (.tmp 13) (.tmp 22) 26 rfl base 61 i0 (.agg #[.int .i64 0,.string ByteArray.empty,.int .i64 0,.int .i64 0]) 4 40 Tryz.underlying26 HI.out.1 HI.out.2.1 HI.out.2.2.1 HI.out.2.2.2 rfl (by decide) (.slice pe W.eds.length ce) W.eds.length (W.eds.flatMap ar.cells) (by simp[Act.eval]) (C.out.ed.below (ai w3 (.cells #[.int .i64 l,.string name,.int .i64 sort,.int .i64 P] 61))) ⟨w3.heap.size,0,none⟩ 1 1 (ar.cells ⟨l,name,sort,P⟩) (by simp[Act.eval]) rfl (fun j u hj=>dh w3 _ _ j u hj) (ar.cells_one _) (by unfold maxLen;omega) (by omega) (by have:=C.out.sz;simp;omega) ?_;intro v4 w4 I J R;have T:=aa (Fy C.out ⟨l,name,sort,P⟩ _ I J R ab.out HF.out.2.2);have ac:=aa (wJ C.out C.out.ed (Nat.le_refl _) J);have l0:=ac.out.cell 1 _ rfl;have lz:=ac.out.fz;obtain⟨p4,c4,rfl⟩:=aq I;clear I J R));all_goals go_wp2_with fail;go_end0;exact⟨_,rfl,T.out.1,T.out.2.1,T.out.2.2⟩
end
end Go.Proofs.YtlbcnmcfljaijaaGreat
