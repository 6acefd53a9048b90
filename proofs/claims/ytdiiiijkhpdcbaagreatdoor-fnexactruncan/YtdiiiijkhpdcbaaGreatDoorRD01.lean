import Derived.Shelf.Small.Bits
import Derived.Shelf.Strconv.Itoa0
import Derived.Shelf.LaysM
import Derived.Shelf.Strconv.Clone
import Derived.Shelf.Sort.Plain
import Derived.Shelf.Slices.In.SortNone
import Derived.Ground.SlgnProg
import Derived.Shelf.SlicesE.Clone
import Derived.Test.YtdiiiijkhpdcbaaGreatDoorProg
namespace Go.Proofs.YtdiiiijkhpdcbaaGreatDoor
open Go.RowKit
set_option linter.unusedSimpArgs false
set_option linter.unusedVariables false
section
open Go.Shelf Go.Proofs
def Tryz.vY:Go.Shelf.Ren:=⟨fun|190=>206|125=>245|258=>244|128=>282|129=>283|302=>273|303=>274|304=>275|305=>276|306=>277|307=>278|308=>279|309=>280|310=>281|333=>297|329=>298|330=>299|334=>300|335=>301|336=>257|344=>316|n=>n,fun|31=>42|9=>9|3=>3|46=>292|0=>0|51=>337|53=>339|4=>4|183=>329|182=>328|131=>334|5=>5|218=>360|222=>364|228=>377|229=>378|n=>n,fun|n=>n⟩
theorem Tryz.zv:Go.Proofs.Lays.n190 Tryz.prog Tryz.vY:={mixed:=by kernel_rfl,f125:=Tryz.func245.trans (congrArg some (by kernel_rfl)),f128:=Tryz.func282.trans (congrArg some (by kernel_rfl)),f129:=Tryz.func283.trans (congrArg some (by kernel_rfl)),f190:=Tryz.func206.trans (congrArg some (by kernel_rfl)),f258:=Tryz.func244.trans (congrArg some (by kernel_rfl)),f302:=Tryz.func273.trans (congrArg some (by kernel_rfl)),f303:=Tryz.func274.trans (congrArg some (by kernel_rfl)),f304:=Tryz.func275.trans (congrArg some (by kernel_rfl)),f305:=Tryz.func276.trans (congrArg some (by kernel_rfl)),f306:=Tryz.func277.trans (congrArg some (by kernel_rfl)),f307:=Tryz.func278.trans (congrArg some (by kernel_rfl)),f308:=Tryz.func279.trans (congrArg some (by kernel_rfl)),f309:=Tryz.func280.trans (congrArg some (by kernel_rfl)),f310:=Tryz.func281.trans (congrArg some (by kernel_rfl)),f329:=Tryz.func298.trans (congrArg some (by kernel_rfl)),f330:=Tryz.func299.trans (congrArg some (by kernel_rfl)),f333:=Tryz.func297.trans (congrArg some (by kernel_rfl)),f334:=Tryz.func300.trans (congrArg some (by kernel_rfl)),f335:=Tryz.func301.trans (congrArg some (by kernel_rfl)),f336:=Tryz.func257.trans (congrArg some (by kernel_rfl)),f344:=Tryz.func316.trans (congrArg some (by kernel_rfl)),t0:=Tryz.underlying0,a0:=Tryz.isAgg0,z0:=Tryz.sizeOf0,v0:=Tryz.zeroValue0,t3:=Tryz.underlying3,a3:=Tryz.isAgg3,z3:=Tryz.sizeOf3,v3:=Tryz.zeroValue3,t4:=Tryz.underlying4,a4:=Tryz.isAgg4,z4:=Tryz.sizeOf4,v4:=Tryz.zeroValue4,t5:=Tryz.underlying5,a5:=Tryz.isAgg5,z5:=Tryz.sizeOf5,v5:=Tryz.zeroValue5,t9:=Tryz.underlying9,a9:=Tryz.isAgg9,z9:=Tryz.sizeOf9,v9:=Tryz.zeroValue9,t31:=Tryz.underlying42,a31:=Tryz.isAgg42,z31:=Tryz.sizeOf42,v31:=Tryz.zeroValue42,t46:=Tryz.underlying292,a46:=Tryz.isAgg292,z46:=Tryz.sizeOf292,v46:=Tryz.zeroValue292,t51:=Tryz.underlying337,a51:=Tryz.isAgg337,z51:=Tryz.sizeOf337,v51:=Tryz.zeroValue337,t53:=Tryz.underlying339,a53:=Tryz.isAgg339,z53:=Tryz.sizeOf339,v53:=Tryz.zeroValue339,t131:=Tryz.underlying334,a131:=Tryz.isAgg334,z131:=Tryz.sizeOf334,v131:=Tryz.zeroValue334,t182:=Tryz.underlying328,a182:=Tryz.isAgg328,z182:=Tryz.sizeOf328,v182:=Tryz.zeroValue328,t183:=Tryz.underlying329,a183:=Tryz.isAgg329,z183:=Tryz.sizeOf329,v183:=Tryz.zeroValue329,t218:=Tryz.underlying360,a218:=Tryz.isAgg360,z218:=Tryz.sizeOf360,v218:=Tryz.zeroValue360,t222:=Tryz.underlying364,a222:=Tryz.isAgg364,z222:=Tryz.sizeOf364,v222:=Tryz.zeroValue364,t228:=Tryz.underlying377,a228:=Tryz.isAgg377,z228:=Tryz.sizeOf377,v228:=Tryz.zeroValue377,t229:=Tryz.underlying378,a229:=Tryz.isAgg378,z229:=Tryz.sizeOf378,v229:=Tryz.zeroValue378}
open Go.Sort Go.RowKit in theorem Tryz.slices_Sort_string(blk off cap:Nat)(ss:List (List UInt8))(w:World)(hH:Holds encStr w blk off ss.toArray)(hblk:blk<w.heap.size)(hsz:ss.length<4611686018427387904):Calls Tryz.prog 206 #[.slice (some ⟨blk,off,none⟩) ss.length cap] w fun e w'=>e=.returned (.tuple #[])∧∃n os,w'=grow (putRow encStr (Sort.ahead w n) blk off (ss.mergeSort fun x y=>decide (x≤y)).toArray) os:=Any.slices_Sort_string Tryz.zv blk off cap ss w hH hblk hsz
open Go.RowKit Go.Sort in theorem Tryz.slices_Sort_string_none(p:Option Addr)(cap:Nat)(w:World):Calls Tryz.prog 206 #[.slice p 0 cap] w fun e w'=>e=.returned (.tuple #[])∧w'=w:=Any.slices_Sort_string_none Tryz.zv p cap w
end
end Go.Proofs.YtdiiiijkhpdcbaaGreatDoor
