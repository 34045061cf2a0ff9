/- Layer 13: tokens are taken. -/
import Derived.Test.YtaknladkodibaaaGreatDoorMgQ33848
import Derived.Test.YtaknladkodibaaaGreatDoorMgQ33829
import Derived.WalkMore
import Derived.Test.YtaknladkodibaaaGreatDoorMgQ33839
import Derived.Test.YtaknladkodibaaaGreatDoorMgQ33847
import Derived.Test.YtaknladkodibaaaGreatDoorMgQ33805
import Derived.Test.YtaknladkodibaaaGreatDoorMgQ33846
import Derived.Test.YtaknladkodibaaaGreatDoorMgQ33825
import Derived.Test.YtaknladkodibaaaGreatDoorMgQ33845
import Derived.Deep.RegionLaw
import Derived.Deep.RegionHeld3
import Derived.Test.YtaknladkodibaaaGreatDoorMgQ338SBytesIn
import Derived.Test.YtaknladkodibaaaGreatDoorMgQ33838
import Derived.Test.YtaknladkodibaaaGreatDoorMgQ33816
import Derived.Test.YtaknladkodibaaaGreatDoorMgQ33842
import Derived.Test.YtaknladkodibaaaGreatDoorMgQ33818
import Derived.Test.YtaknladkodibaaaGreatDoorMgQ33831
import Derived.Test.YtaknladkodibaaaGreatDoorMgQ33827
import Derived.Test.YtaknladkodibaaaGreatDoorMgQ338SRnRJ
import Derived.Test.YtaknladkodibaaaGreatDoorMgQ33808
namespace Go.Proofs.YtaknladkodibaaaGreatDoor
open Go.RowKit BitsP SymP
def tcC (t:Tk):List Value:=[.int .u8 (t.1.toNat:Int),.int .i64 (t.2.1:Int),.int .i64 (t.2.2:Int)]
theorem tcElem:Elem Tryz.prog 117 164 (.agg #[.int .u8 0,.int .i64 0,.int .i64 0]) 3 24:=Elem.of Tryz.underlying117 (by kernel_rfl) (by kernel_rfl) (by omega)
structure TsI (w W:World) (r base:Nat) (S:Nat→Prop) (bs:List UInt8) (p ga gb:Nat) (v:Value) (ts:List Tk):Prop where
 row:W.ownsRow (w.heap.size + 1) 164 3 v ts.length (ts.flatMap tcC)
 rd:RdS W r base S bs p
 mod:Mod (oneB r) w W
 box:W.heap[w.heap.size]? = some (.cells (alC (.pointer (some ⟨ga,0,none⟩)) 257 (.pointer (some ⟨gb,0,none⟩)) 0) 251 (0,0))
section
variable {w W W':World} {r base p p' ga gb:Nat} {S:Nat→Prop} {bs:List UInt8} {v v':Value} {ts ts':List Tk}
theorem TsI.part (h:TsI w W r base S bs p ga gb v ts) (hr:r < w.heap.size) (hm:Mod (oneB r) W W') (hrd:RdS W' r base S bs p'):TsI w W' r base S bs p' ga gb v ts :=
 ⟨own_keep h.row hm (fun k hk hs => by have h2:k = r:=hs;have:=own_base h.row k hk;omega),hrd,h.mod.then_ hm,hm.keep h.box (fun hs => by have h2:w.heap.size = r:=hs;omega)⟩
theorem TsI.below (h:TsI w W r base S bs p ga gb v ts) (hb:Below W.heap.size W W'):TsI w W' r base S bs p ga gb v ts :=
 ⟨own_keep h.row (Mod.of_below hb) (fun _ _ h => h),h.rd.keep (Mod.of_below hb) (fun _ _ h => h),h.mod.then_ ((Mod.of_below hb).mono fun _ h => h.elim),(hb.block _ (Array.getElem?_eq_some_iff.1 h.box).1).trans h.box⟩
theorem TsI.other {g:Nat} (h:TsI w W r base S bs p ga gb v ts) (hSL:∀ k,S k→k < w.heap.size) (hg:w.heap.size < g) (hv:v.ownBlock ≠ some g) (hm:Mod (oneB g) W W'):TsI w W' r base S bs p ga gb v ts :=
 ⟨own_keep h.row hm (fun k hk hs => by have h2:k = g:=hs;exact hv (h2 ▸ hk)),h.rd.keep hm (fun k hk hs => by have h2:k = g:=hs;have:=hSL k hk;omega),h.mod.trans hm (fun k hs => .inr (by have h2:k = g:=hs;omega)),hm.keep h.box (fun hs => by have h2:w.heap.size = g:=hs;omega)⟩
theorem TsI.app {m:Nat} {xs:List Value} (h:TsI w W r base S bs p ga gb v ts) (hSL:∀ k,S k→k < w.heap.size) (ha:App W (w.heap.size + 1) 164 3 v m xs W' v') (hm:m = ts'.length) (hx:xs = ts'.flatMap tcC):TsI w W' r base S bs p ga gb v' ts':=by
 subst hm hx
 exact ⟨ha.own,h.rd.keep (Mod.of_app ha) (fun k hk hs => by have:=hSL k hk;have:=own_base h.row k hs;omega),h.mod.trans (Mod.of_app ha) (fun k hk => .inr (by have:=own_base h.row k hk;omega)),(Mod.of_app ha).keep h.box (fun hk => by have:=own_base h.row _ hk;omega)⟩
end
def RowB (W:World) (R:Nat) (c1 c2:Nat × Nat × Nat) (m:Bool):Prop:=W.heap[R]? = some (.cells #[.int .i64 (c1.1:Int),.int .i64 (c1.2.1:Int),.int .u32 (c1.2.2:Int),.int .i64 (c2.1:Int),.int .i64 (c2.2.1:Int),.int .u32 (c2.2.2:Int),.bool m] 168 (0,0))
def PtrB (W:World) (R:Nat):Prop:=W.heap[R + 1]? = some (.cells #[.pointer (some ⟨R,0,none⟩),.pointer (some ⟨R,3,none⟩)] 289 (0,0))
theorem rowB_cells {W:World} {R:Nat} {c1 c2:Nat × Nat × Nat} {m:Bool} (h:RowB W R c1 c2 m):W.cell? ⟨R,0,none⟩ = some (.int .i64 (c1.1:Int))∧W.cell? ⟨R,1,none⟩ = some (.int .i64 (c1.2.1:Int))∧W.cell? ⟨R,2,none⟩ = some (.int .u32 (c1.2.2:Int))∧W.cell? ⟨R,3,none⟩ = some (.int .i64 (c2.1:Int))∧W.cell? ⟨R,4,none⟩ = some (.int .i64 (c2.2.1:Int))∧W.cell? ⟨R,5,none⟩ = some (.int .u32 (c2.2.2:Int))∧W.cell? ⟨R,6,none⟩ = some (.bool m) :=
 ⟨cell_of_row _ _ 0 _ _ _ h,cell_of_row _ _ 1 _ _ _ h,cell_of_row _ _ 2 _ _ _ h,cell_of_row _ _ 3 _ _ _ h,cell_of_row _ _ 4 _ _ _ h,cell_of_row _ _ 5 _ _ _ h,cell_of_row _ _ 6 _ _ _ h⟩
theorem rowB_free {W:World} {R:Nat} {c1 c2:Nat × Nat × Nat} {m:Bool} (h:RowB W R c1 c2 m):W.frozen? ⟨R,0,none⟩ = false∧W.frozen? ⟨R,1,none⟩ = false∧W.frozen? ⟨R,2,none⟩ = false∧W.frozen? ⟨R,3,none⟩ = false∧W.frozen? ⟨R,4,none⟩ = false∧W.frozen? ⟨R,5,none⟩ = false∧W.frozen? ⟨R,6,none⟩ = false :=
 ⟨frozen_of_row _ _ 0 _ _ h,frozen_of_row _ _ 1 _ _ h,frozen_of_row _ _ 2 _ _ h,frozen_of_row _ _ 3 _ _ h,frozen_of_row _ _ 4 _ _ h,frozen_of_row _ _ 5 _ _ h,frozen_of_row _ _ 6 _ _ h⟩
theorem RowB.first {W:World} {R:Nat} {c1 c2:Nat × Nat × Nat} {m:Bool} (h:RowB W R c1 c2 m) (c:Nat × Nat × Nat):RowB (((W.setCell ⟨R,0,none⟩ (.int .i64 (c.1:Int))).setCell ⟨R,1,none⟩ (.int .i64 (c.2.1:Int))).setCell ⟨R,2,none⟩ (.int .u32 (c.2.2:Int))) R c c2 m :=
 heap_setCell_same _ R 2 _ _ _ (heap_setCell_same _ R 1 _ _ _ (heap_setCell_same W R 0 _ _ _ h))
theorem RowB.second {W:World} {R:Nat} {c1 c2:Nat × Nat × Nat} {m:Bool} (h:RowB W R c1 c2 m) (c:Nat × Nat × Nat):RowB (((W.setCell ⟨R,3,none⟩ (.int .i64 (c.1:Int))).setCell ⟨R,4,none⟩ (.int .i64 (c.2.1:Int))).setCell ⟨R,5,none⟩ (.int .u32 (c.2.2:Int))) R c1 c m :=
 heap_setCell_same _ R 5 _ _ _ (heap_setCell_same _ R 4 _ _ _ (heap_setCell_same W R 3 _ _ _ h))
theorem RowB.third {W:World} {R:Nat} {c1 c2:Nat × Nat × Nat} {m:Bool} (h:RowB W R c1 c2 m) (b:Bool):RowB (W.setCell ⟨R,6,none⟩ (.bool b)) R c1 c2 b :=
 heap_setCell_same W R 6 _ _ _ h
theorem set3_mod (W:World) (R i j k:Nat) (a b c:Value):Mod (oneB R) W (((W.setCell ⟨R,i,none⟩ a).setCell ⟨R,j,none⟩ b).setCell ⟨R,k,none⟩ c) :=
 (((Mod.refl (oneB R) W).set ⟨R,i,none⟩ a (.inl rfl)).set ⟨R,j,none⟩ b (.inl rfl)).set ⟨R,k,none⟩ c (.inl rfl)
theorem set1_mod (W:World) (R i:Nat) (a:Value):Mod (oneB R) W (W.setCell ⟨R,i,none⟩ a):=(Mod.refl (oneB R) W).set ⟨R,i,none⟩ a (.inl rfl)
theorem cells3_new (W:World) (o:Obj) (a b c:Value) (T:TypeId):Cells ((W.alloc o).alloc (.cells #[a,b,c] T)) (W.heap.size + 2) (some ⟨W.heap.size + 1,0,none⟩) [a,b,c]:=fun _ =>
 ⟨W.heap.size + 1,0,rfl,by omega,fun j u hu => by
  have h:=heap_alloc_new (W.alloc o) (.cells #[a,b,c] T)
  rw [World.size_alloc] at h
  rw [Nat.zero_add,cell_of_row _ (W.heap.size + 1) j _ _ _ h,← Array.getElem?_toList]
  exact hu⟩
theorem joinR_bd {n1 b1:Int} {x1:Nat} {n2 b2:Int} {x2:Nat} {m:Bool} {J:Option (Nat × Nat × Nat)} (h:joinR n1 b1 x1 n2 b2 x2 m = J):∀ y l d,J = some (y,l,d)→y < 256∧l ≤ 258∧d ≤ 32768:=by
 rintro y l d rfl
 unfold joinR at h
 split at h
 ·split at h
  ·rename_i hc
   cases h
   omega
  ·cases h
 ·split at h
  ·rename_i hc
   cases h
   have h1:=valC_low (n:=n1 - 257) (b:=b1) (x:=x1) (by omega)
   have h2:=vN_lt n2 b2 x2
   omega
  ·cases h
set_option maxRecDepth 100000 in
set_option maxHeartbeats 4000000 in
theorem tktoks_any (F : List Int → List Bool → Int × Int × Nat) (hF : FunT F) (r base n0 ga gb : Nat) (S : Nat → Prop) (bs : List UInt8) (p : Nat) (most : Int) (z1 z2 : List Int) (w : World) (h1 : caR z1 = true) (h2 : caR z2 = true) (hzl1 : z1.length = 273) (hzl2 : z2.length = 30) (ha : LCa w n0 ga z1) (hb : LCa w n0 gb z2) (hr0 : r < n0) (hrd : RdS w r base S bs p) (hbl : bs.length ≤ 1000000) (m0 : -9223372036854775808 ≤ most) (m1 : most ≤ 9223372036854775807) :
    Calls Tryz.prog 173 #[.pointer (some ⟨r, 0, none⟩), .agg (alC (.pointer (some ⟨ga, 0, none⟩)) 257 (.pointer (some ⟨gb, 0, none⟩)) 0), .int .i64 most] w
      fun e w' => ∃ (A : Option Addr) (c p' : Nat) (t : Int × List Tk × Nat), blkL F z1 z2 (unpack bs) most ((unpack bs).length + 1 - p) [] 0 p = t ∧ e = .returned (.tuple #[.slice A t.2.1.length c, .int .i64 t.1]) ∧ w'.ownsRow (w.heap.size + 1) 164 3 (.slice A t.2.1.length c) t.2.1.length (t.2.1.flatMap tcC) ∧ RdS w' r base S bs p' ∧ (t.1 = 0 → p' = t.2.2) ∧ Mod (oneB r) w w' := by
  obtain ⟨hrl0, hp8, _⟩ := rd_low hrd
  obtain ⟨W1, hW1⟩ : ∃ W1, w.alloc (.cells (alC (.pointer (some ⟨ga, 0, none⟩)) 257 (.pointer (some ⟨gb, 0, none⟩)) 0) 251) = W1 := ⟨_, rfl⟩
  have hb1 : Below w.heap.size w W1 := by rw [← hW1]; exact (Below.refl _ w).alloc (Nat.le_refl _) _
  have HX1 : Hid (W1.heap[w.heap.size]? = some (.cells (alC (.pointer (some ⟨ga, 0, none⟩)) 257 (.pointer (some ⟨gb, 0, none⟩)) 0) 251 (0, 0))) := by show _ = _; rw [← hW1]; exact heap_alloc_new w _
  have HSL : Hid (∀ k, S k → k < w.heap.size) := hrd.lt
  have HRL : Hid (r < w.heap.size) := hrl0
  obtain ⟨L, hL⟩ : ∃ L, unpack bs = L := ⟨_, rfl⟩
  have hLl : L.length = 8 * bs.length := by rw [← hL, unpack_length]
  have HI1 : Hid (TsI w W1 r base S bs p ga gb (.slice none 0 0) []) := ⟨World.ownsRow_nil _ _ _ _, hrd.keep (Mod.of_below hb1) (fun _ _ h => h), (Mod.of_below hb1).mono (fun _ h => h.elim), HX1.out⟩
  have HCA : Hid (∀ W, Mod (oneB r) w W → LCa W n0 ga z1) := fun W hW => ha.keep2 hW (fun k hk => by have h2 : k = r := hk; omega)
  have HCB : Hid (∀ W, Mod (oneB r) w W → LCa W n0 gb z2) := fun W hW => hb.keep2 hW (fun k hk => by have h2 : k = r := hk; omega)
  have HTC : Hid (∀ (g zr : Nat) (zs : List Int) (W : World) (p' : Nat), caR zs = true → zr ≤ 1000 → LCa W n0 g zs → RdS W r base S bs p' → _) := fun g zr zs W p' hr hz hc hrd => tkclass_any F hF g r base zr zs S bs p' W hr hz hc.lc hrd hbl
  rw [hL] at HTC ⊢
  obtain ⟨T, hT⟩ : ∃ T, blkL F z1 z2 L most (L.length + 1 - p) [] 0 p = T := ⟨_, rfl⟩
  have HT := Lib.hid hT
  rw [hT]
  have HERR : Hid (∀ (e : Ending) (w' : World) (er : Int) (p' : Nat), T = (er, [], 0) → er ≠ 0 → e = .returned (.tuple #[.slice none 0 0, .int .i64 er]) → RdS w' r base S bs p' → Mod (oneB r) w w' → ∃ (A : Option Addr) (c p' : Nat) (t : Int × List Tk × Nat), T = t ∧ e = .returned (.tuple #[.slice A t.2.1.length c, .int .i64 t.1]) ∧ w'.ownsRow (w.heap.size + 1) 164 3 (.slice A t.2.1.length c) t.2.1.length (t.2.1.flatMap tcC) ∧ RdS w' r base S bs p' ∧ (t.1 = 0 → p' = t.2.2) ∧ Mod (oneB r) w w') := fun e w' er p' ht hne he hr hm => ⟨none, 0, p', _, ht, he, World.ownsRow_nil _ _ _ _, hr, fun h => absurd h hne, hm⟩
  have HR1 := Lib.hid h1
  have HR2 := Lib.hid h2
  have HLL := Lib.hid hLl
  have hp8L : p ≤ L.length := by omega
  clear ha hb hrd hb1 hL h1 h2 hT HX1
  unfold alC at hW1 ⊢
  go_enter Tryz.func173, Tryz.ntmps173
  go_wp2
  go_step3
  go_wp2
  go_step3
  go_wp2
  go_loopg [6, 7, 8] (L.length + 1 - p) (fun gk v s7 s8 wr => ∃ (ts : List Tk) (size p' : Nat), s7 = .int .i64 0 ∧ s8 = .int .i64 (size : Int) ∧ T = blkL F z1 z2 L most gk ts size p' ∧ L.length + 1 ≤ p' + gk ∧ p' ≤ L.length ∧ (size = 0 ∨ (size : Int) ≤ most) ∧ size ≤ 258 * p' ∧ ts.length ≤ p' ∧ (∃ A c, v = .slice A ts.length c) ∧ TsI w wr r base S bs p' ga gb v ts)
  case atStart => exact ⟨[], 0, p, rfl, rfl, HT.out.symm, by omega, by omega, .inl rfl, by omega, Nat.zero_le _, ⟨none, 0, rfl⟩, HI1.out⟩
  case round =>
    obtain ⟨ts, size, p', rfl, rfl, hte, hpg, hpl, hsm, hs258, hlp, ⟨Av, cv, rfl⟩, hti⟩ := hrel
    have HTE := Lib.hid hte
    have HTI := Lib.hid hti
    obtain ⟨j, rfl⟩ : ∃ j, gk = j + 1 := ⟨gk - 1, by omega⟩
    obtain ⟨ll, hll⟩ : ∃ ll, ts.length = ll := ⟨_, rfl⟩
    have HLN := Lib.hid hll
    rw [hll] at HTI hlp ⊢
    have hlmax : ll ≤ 8000000 := by have := HLL.out; omega
    obtain ⟨W0, hW0⟩ : ∃ W0, W0 = wr := ⟨_, rfl⟩
    subst hW0
    obtain ⟨R, hR⟩ : ∃ R, W0.heap.size = R := ⟨_, rfl⟩
    have hNR : w.heap.size < R := by rw [← hR]; exact (Array.getElem?_eq_some_iff.1 hti.box).1
    clear hte hti hll HI1
    have HRB0 : Hid (RowB ((W0.alloc (.cells #[.int .i64 0, .int .i64 0, .int .u32 0, .int .i64 0, .int .i64 0, .int .u32 0, .bool false] 168)).alloc (.cells #[.pointer (some ⟨R, 0, none⟩), .pointer (some ⟨R, 3, none⟩)] 289)) R (0, 0, 0) (0, 0, 0) false) := by
      show RowB _ _ _ _ _
      rw [← hR]
      exact row3_alloc (heap_alloc_new W0 _) _
    have HPB0 : Hid (PtrB ((W0.alloc (.cells #[.int .i64 0, .int .i64 0, .int .u32 0, .int .i64 0, .int .i64 0, .int .u32 0, .bool false] 168)).alloc (.cells #[.pointer (some ⟨R, 0, none⟩), .pointer (some ⟨R, 3, none⟩)] 289)) R) := by
      show PtrB _ _
      have h := heap_alloc_new (W0.alloc (.cells #[.int .i64 0, .int .i64 0, .int .u32 0, .int .i64 0, .int .i64 0, .int .u32 0, .bool false] 168)) (.cells #[.pointer (some ⟨R, 0, none⟩), .pointer (some ⟨R, 3, none⟩)] 289)
      rw [World.size_alloc, hR] at h
      exact h
    have HI0 := Lib.hid (HTI.out.below (((Below.refl W0.heap.size W0).alloc (Nat.le_refl _) (.cells #[.int .i64 0, .int .i64 0, .int .u32 0, .int .i64 0, .int .i64 0, .int .u32 0, .bool false] 168)).alloc (by simp) (.cells #[.pointer (some ⟨R, 0, none⟩), .pointer (some ⟨R, 3, none⟩)] 289)))
    have HAV : Hid (∀ g, W0.heap.size ≤ g → (Value.slice Av ll cv).ownBlock ≠ some g) := fun g hg e => by
      have := (HTI.out.row.lt g e).2
      omega
    have hs0 := HTI.out.mod.size
    go_wp2
    rw [hR] at HAV
    go_loopg [7, 10, 11, 19] 2 (fun gk s7 s10 s11 i W => s7 = .int .i64 0 ∧ ∃ (k pp : Nat) (c1 c2 : Nat × Nat × Nat) (m : Bool), k + gk = 2 ∧ i = .int .i64 (k : Int) ∧ TsI w W r base S bs pp ga gb (.slice Av ll cv) ts ∧ RowB W R c1 c2 m ∧ PtrB W R ∧ R + 1 < W.heap.size ∧
      ((k = 0 ∧ c1 = (0, 0, 0) ∧ c2 = (0, 0, 0) ∧ m = false ∧ pp = p') ∨
       (k = 1 ∧ c2 = (0, 0, 0) ∧ m = true ∧ 256 < c1.1 ∧ c1.1 < 273 ∧ c1.2.1 ≤ 13 ∧ c1.2.2 < 8192 ∧ ∃ on1, clsF F z1 257 L p' = (0, c1, on1) ∧ pp = p' + on1 ∧ 1 ≤ on1) ∨
       (k = 2 ∧ m = true ∧ 256 < c1.1 ∧ c1.1 < 273 ∧ c1.2.1 ≤ 13 ∧ c1.2.2 < 8192 ∧ c2.1 < 30 ∧ c2.2.1 ≤ 13 ∧ c2.2.2 < 8192 ∧ ∃ on1 on2, clsF F z1 257 L p' = (0, c1, on1) ∧ clsF F z2 0 L (p' + on1) = (0, c2, on2) ∧ pp = p' + on1 + on2 ∧ 1 ≤ on1)))
    case atStart => exact ⟨rfl, 0, p', _, _, _, rfl, rfl, HI0.out, HRB0.out, HPB0.out, by simp; omega, .inl ⟨rfl, rfl, rfl, rfl, rfl⟩⟩
    case round =>
      obtain ⟨rfl, k, pp, c1, c2, m, hkg, rfl, hti, hrb, hpb, hRs, hcase⟩ := hrel
      have HTI2 := Lib.hid hti
      have HRB := Lib.hid hrb
      have HPB := Lib.hid hpb
      have g0 : wr.cell? ⟨R + 1, 0, none⟩ = some (.pointer (some ⟨R, 0, none⟩)) := cell_of_row _ _ 0 _ _ _ hpb
      have g1 : wr.cell? ⟨R + 1, 1, none⟩ = some (.pointer (some ⟨R, 3, none⟩)) := cell_of_row _ _ 1 _ _ _ hpb
      obtain ⟨⟨x0, x1, x2, x3⟩, _⟩ := row4_facts hti.box
      clear hti hrb hpb HRB0 HPB0 HI0
      rcases hcase with ⟨rfl, rfl, rfl, rfl, rfl⟩ | ⟨rfl, rfl, rfl, h256, h273, hcb, hcx, on1, hc1, rfl, hon⟩ | ⟨rfl, rfl, h256, h273, hcb, hcx, h30, hdb, hdx, on1, on2, hc1, hc2, rfl, hon⟩
      · have hgk : gk = 2 := by omega
        have HCL := Lib.hid (HTC.out ga 257 z1 wr pp HR1.out (by omega) (HCA.out wr HTI2.out.mod) HTI2.out.rd)
        obtain ⟨C, hC⟩ : ∃ C, clsF F z1 257 L pp = C := ⟨_, rfl⟩
        rw [hC] at HCL
        obtain ⟨er, ⟨n, b, x⟩, on⟩ := C
        dsimp only at HCL
        by_cases her : er = 0
        · subst her
          by_cases h256 : n = 256
          · have HTQ : Hid (T = (0, ts, pp + on)) := by show _ = _; rw [HTE.out, blkL, hC]; dsimp only; rw [if_neg (by simp), if_pos h256]
            have v1 : ((n : Int) == 256) = true := by simp; omega
            clear hC h256
            go_wp2_with (go_at_call 205; refine HCL.out.mono ?_; rintro e w5 ⟨p5, rfl, hrd5, hpe5, hm5⟩; have HI5 := Lib.hid (HTI2.out.part HRL.out hm5 hrd5); have hrb5 : RowB w5 R _ _ _ := hm5.keep HRB.out (fun h => by have h2 : R = r := h; have := HRL.out; omega); have hpb5 : PtrB w5 R := hm5.keep HPB.out (fun h => by have h2 : R + 1 = r := h; have := HRL.out; omega); have HPB5 := Lib.hid hpb5; have hs5 := hm5.size; obtain ⟨rfl, hon1, hnz, hb13, hx81⟩ := hpe5 (by first | rfl | trivial); obtain ⟨q0, q1, q2, q3, q4, q5, q6⟩ := rowB_cells hrb5; obtain ⟨f0, f1, f2, f3, f4, f5, f6⟩ := rowB_free hrb5; obtain ⟨W6, hW6⟩ : ∃ W6, (((w5.setCell ⟨R, 0, none⟩ (.int .i64 (n : Int))).setCell ⟨R, 1, none⟩ (.int .i64 (b : Int))).setCell ⟨R, 2, none⟩ (.int .u32 (x : Int))) = W6 := ⟨_, rfl⟩; have hrb6 := hrb5.first (n, b, x); dsimp only at hrb6; rw [hW6] at hrb6; have hm6 : Mod (oneB R) w5 W6 := (by rw [← hW6]; exact set3_mod _ _ _ _ _ _ _ _); have HI6 := Lib.hid (HI5.out.other HSL.out (by omega) (HAV.out R (Nat.le_refl _)) hm6); have HRB6 := Lib.hid hrb6; have HPB6 := Lib.hid (show PtrB W6 R from hm6.keep HPB5.out (fun h => by have h2 : R + 1 = R := h; omega)); have hs6 := hm6.size; obtain ⟨s0, s1, s2, s3, s4, s5, s6⟩ := rowB_cells hrb6; obtain ⟨e0, e1, e2, e3, e4, e5, e6⟩ := rowB_free hrb6; clear hrd5 hpe5 hm5 hrb5 hpb5 hrb6 hm6)
            try rw [Exit.noGoto_ret]
            refine bodyPost_ret (results_tmp2 rfl _ _ _) rfl ?_
            refine ⟨Av, cv, _, _, HTQ.out, by rw [HLN.out]; rfl, ?_, HI6.out.rd, fun _ => rfl, HI6.out.mod⟩
            have h := HI6.out.row
            rw [HLN.out]
            rw [HLN.out] at h
            exact h
          · by_cases hm : 256 < n
            · have HCC := Lib.hid hC
              clear hC
              have v1 : ((n : Int) == 256) = false := by simp; omega
              have v2 : decide ((256 : Int) < (n : Int)) = true := decide_eq_true (by omega)
              have v2n : decide (256 < n) = true := decide_eq_true hm
              go_wp2_with (go_at_call 205; refine HCL.out.mono ?_; rintro e w5 ⟨p5, rfl, hrd5, hpe5, hm5⟩; have HI5 := Lib.hid (HTI2.out.part HRL.out hm5 hrd5); have hrb5 : RowB w5 R _ _ _ := hm5.keep HRB.out (fun h => by have h2 : R = r := h; have := HRL.out; omega); have hpb5 : PtrB w5 R := hm5.keep HPB.out (fun h => by have h2 : R + 1 = r := h; have := HRL.out; omega); have HPB5 := Lib.hid hpb5; have hs5 := hm5.size; obtain ⟨rfl, hon1, hnz, hb13, hx81⟩ := hpe5 (by first | rfl | trivial); obtain ⟨q0, q1, q2, q3, q4, q5, q6⟩ := rowB_cells hrb5; obtain ⟨f0, f1, f2, f3, f4, f5, f6⟩ := rowB_free hrb5; obtain ⟨W6, hW6⟩ : ∃ W6, (((w5.setCell ⟨R, 0, none⟩ (.int .i64 (n : Int))).setCell ⟨R, 1, none⟩ (.int .i64 (b : Int))).setCell ⟨R, 2, none⟩ (.int .u32 (x : Int))) = W6 := ⟨_, rfl⟩; have hrb6 := hrb5.first (n, b, x); dsimp only at hrb6; rw [hW6] at hrb6; have hm6 : Mod (oneB R) w5 W6 := (by rw [← hW6]; exact set3_mod _ _ _ _ _ _ _ _); have HI6 := Lib.hid (HI5.out.other HSL.out (by omega) (HAV.out R (Nat.le_refl _)) hm6); have HRB6 := Lib.hid hrb6; have HPB6 := Lib.hid (show PtrB W6 R from hm6.keep HPB5.out (fun h => by have h2 : R + 1 = R := h; omega)); have hs6 := hm6.size; obtain ⟨s0, s1, s2, s3, s4, s5, s6⟩ := rowB_cells hrb6; obtain ⟨e0, e1, e2, e3, e4, e5, e6⟩ := rowB_free hrb6; obtain ⟨W7, hW7⟩ : ∃ W7, W6.setCell ⟨R, 6, none⟩ (.bool true) = W7 := ⟨_, rfl⟩; have hrb7 := hrb6.third true; rw [hW7] at hrb7; have hm7 : Mod (oneB R) W6 W7 := (by rw [← hW7]; exact set1_mod _ _ _ _); have HI7 := Lib.hid (HI6.out.other HSL.out (by omega) (HAV.out R (Nat.le_refl _)) hm7); have HRB7 := Lib.hid hrb7; have HPB7 := Lib.hid (show PtrB W7 R from hm7.keep HPB6.out (fun h => by have h2 : R + 1 = R := h; omega)); have hs7 := hm7.size; obtain ⟨t0, t1, t2, t3, t4, t5, t6⟩ := rowB_cells hrb7; clear hrb7 hm7; clear hrd5 hpe5 hm5 hrb5 hpb5 hrb6 hm6)
              go_roundg 1
              case measure => omega
              case rel => exact ⟨rfl, 1, _, _, _, _, rfl, by go_num, HI7.out, HRB7.out, HPB7.out, by omega, .inr (.inl ⟨rfl, rfl, rfl, hm, by show n < 273; omega, hb13, hx81, on, HCC.out, rfl, hon1⟩)⟩
            · have HTQ : Hid (T = match (joinR (n : Int) (b : Int) x 0 0 0 false) with
                | none => (3, [], 0)
                | some (y, l, d) => if size < d then (3, [], 0) else if most - (size : Int) < (max l 1 : Nat) then (5, [], 0) else blkL F z1 z2 L most j (ts ++ [(UInt8.ofNat y, l, d)]) (size + max l 1) (pp + on)) := by
                show _ = _
                rw [HTE.out, blkL, hC]
                dsimp only
                rw [if_neg (by simp), if_neg h256, if_neg (by omega), if_neg hm, if_neg hm, Nat.add_zero]
                rfl
              clear hC
              have v1 : ((n : Int) == 256) = false := by simp; omega
              have v2 : decide ((256 : Int) < (n : Int)) = false := decide_eq_false (by omega)
              have v2n : decide (256 < n) = false := decide_eq_false hm
              go_upto_region 11 with (go_at_call 205; refine HCL.out.mono ?_; rintro e w5 ⟨p5, rfl, hrd5, hpe5, hm5⟩; have HI5 := Lib.hid (HTI2.out.part HRL.out hm5 hrd5); have hrb5 : RowB w5 R _ _ _ := hm5.keep HRB.out (fun h => by have h2 : R = r := h; have := HRL.out; omega); have hpb5 : PtrB w5 R := hm5.keep HPB.out (fun h => by have h2 : R + 1 = r := h; have := HRL.out; omega); have HPB5 := Lib.hid hpb5; have hs5 := hm5.size; obtain ⟨rfl, hon1, hnz, hb13, hx81⟩ := hpe5 (by first | rfl | trivial); obtain ⟨q0, q1, q2, q3, q4, q5, q6⟩ := rowB_cells hrb5; obtain ⟨f0, f1, f2, f3, f4, f5, f6⟩ := rowB_free hrb5; obtain ⟨W6, hW6⟩ : ∃ W6, (((w5.setCell ⟨R, 0, none⟩ (.int .i64 (n : Int))).setCell ⟨R, 1, none⟩ (.int .i64 (b : Int))).setCell ⟨R, 2, none⟩ (.int .u32 (x : Int))) = W6 := ⟨_, rfl⟩; have hrb6 := hrb5.first (n, b, x); dsimp only at hrb6; rw [hW6] at hrb6; have hm6 : Mod (oneB R) w5 W6 := (by rw [← hW6]; exact set3_mod _ _ _ _ _ _ _ _); have HI6 := Lib.hid (HI5.out.other HSL.out (by omega) (HAV.out R (Nat.le_refl _)) hm6); have HRB6 := Lib.hid hrb6; have HPB6 := Lib.hid (show PtrB W6 R from hm6.keep HPB5.out (fun h => by have h2 : R + 1 = R := h; omega)); have hs6 := hm6.size; obtain ⟨s0, s1, s2, s3, s4, s5, s6⟩ := rowB_cells hrb6; obtain ⟨e0, e1, e2, e3, e4, e5, e6⟩ := rowB_free hrb6; obtain ⟨W7, hW7⟩ : ∃ W7, W6.setCell ⟨R, 6, none⟩ (.bool false) = W7 := ⟨_, rfl⟩; have hrb7 := hrb6.third false; rw [hW7] at hrb7; have hm7 : Mod (oneB R) W6 W7 := (by rw [← hW7]; exact set1_mod _ _ _ _); have HI7 := Lib.hid (HI6.out.other HSL.out (by omega) (HAV.out R (Nat.le_refl _)) hm7); have HRB7 := Lib.hid hrb7; have HPB7 := Lib.hid (show PtrB W7 R from hm7.keep HPB6.out (fun h => by have h2 : R + 1 = R := h; omega)); have hs7 := hm7.size; obtain ⟨t0, t1, t2, t3, t4, t5, t6⟩ := rowB_cells hrb7; clear hrb7 hm7; clear hrd5 hpe5 hm5 hrb5 hpb5 hrb6 hm6)
              have hpl2 := (rd_low HI7.out.rd).2.1
              have hLL := HLL.out
              obtain ⟨r0, r1, r2, r3, r4, r5, r6⟩ := rowB_cells HRB7.out
              dsimp only at r0 r1 r2 r3 r4 r5 r6
              have HJ := Lib.hid (fun W => join_all (n1 := (n : Int)) (b1 := (b : Int)) (x1 := x) (n2 := 0) (b2 := 0) (x2 := 0) false W (by omega) (by omega) (by omega) (by omega))
              obtain ⟨J, hJ⟩ : ∃ J, joinR (n : Int) (b : Int) x 0 0 0 false = J := ⟨_, rfl⟩
              rw [hJ] at HJ HTQ
              have HJB := Lib.hid (joinR_bd hJ)
              unfold agR at HJ
              clear hJ
              cases J with
              | none =>
                unfold joinV agT at HJ
                go_wp2_with (go_at_call 206; refine (HJ.out _).mono ?_; rintro e w8 ⟨rfl, hb8⟩; have HI8 := Lib.hid (HI7.out.below hb8); have HI9 := Lib.hid (HI8.out.below ((Below.refl w8.heap.size w8).alloc (Nat.le_refl _) (.cells #[.int .u8 0, .int .i64 0, .int .i64 0] 164))); clear hb8)
                try rw [Exit.noGoto_ret]
                refine bodyPost_ret (results_tmp2 rfl _ _ _) rfl ?_
                exact HERR.out _ _ 3 _ HTQ.out (by first | decide | assumption) (by rfl) HI9.out.rd HI9.out.mod
              | some q =>
                obtain ⟨y, l, d⟩ := q
                unfold joinV agT at HJ
                dsimp only at HTQ
                obtain ⟨hy256, hl258, hd⟩ := HJB.out y l d rfl
                have HYY : Hid ((UInt8.ofNat y).toNat = y) := by show _ = _; simp; omega
                have hmax : max (l : Int) 1 = ((max l 1 : Nat) : Int) := by omega
                obtain ⟨sz, hsz⟩ : ∃ sz, max l 1 = sz := ⟨_, rfl⟩
                rw [hsz] at HTQ hmax
                have hsz1 : 1 ≤ sz ∧ sz ≤ 258 := by omega
                have hsub : IntKind.i64.wrap (most - (size : Int)) = most - (size : Int) := IntWalk.i64_in _ (by omega)
                clear hsz
                by_cases hdd : size < d
                · rw [if_pos hdd] at HTQ
                  have u1 : decide ((size : Int) < (d : Int)) = true := decide_eq_true (by omega)
                  have u1n : decide (size < d) = true := decide_eq_true hdd
                  clear hdd hmax hsub
                  go_wp2_with (go_at_call 206; refine (HJ.out _).mono ?_; rintro e w8 ⟨rfl, hb8⟩; have HI8 := Lib.hid (HI7.out.below hb8); have HI9 := Lib.hid (HI8.out.below ((Below.refl w8.heap.size w8).alloc (Nat.le_refl _) (.cells #[.int .u8 (y : Int), .int .i64 (l : Int), .int .i64 (d : Int)] 164))); clear hb8)
                  try rw [Exit.noGoto_ret]
                  refine bodyPost_ret (results_tmp2 rfl _ _ _) rfl ?_
                  exact HERR.out _ _ 3 _ HTQ.out (by first | decide | assumption) (by rfl) HI9.out.rd HI9.out.mod
                · rw [if_neg hdd] at HTQ
                  have u1 : decide ((size : Int) < (d : Int)) = false := decide_eq_false (by omega)
                  have u1n : decide (size < d) = false := decide_eq_false hdd
                  by_cases hbig : most - (size : Int) < (sz : Int)
                  · rw [if_pos hbig] at HTQ
                    have u2 : decide (most - (size : Int) < (sz : Int)) = true := decide_eq_true hbig
                    clear hdd hbig
                    go_wp2_with (go_at_call 206; refine (HJ.out _).mono ?_; rintro e w8 ⟨rfl, hb8⟩; have HI8 := Lib.hid (HI7.out.below hb8); have HI9 := Lib.hid (HI8.out.below ((Below.refl w8.heap.size w8).alloc (Nat.le_refl _) (.cells #[.int .u8 (y : Int), .int .i64 (l : Int), .int .i64 (d : Int)] 164))); clear hb8)
                    try rw [Exit.noGoto_ret]
                    refine bodyPost_ret (results_tmp2 rfl _ _ _) rfl ?_
                    exact HERR.out _ _ 5 _ HTQ.out (by first | decide | assumption) (by rfl) HI9.out.rd HI9.out.mod
                  · rw [if_neg hbig] at HTQ
                    have u2 : decide (most - (size : Int) < (sz : Int)) = false := decide_eq_false hbig
                    have hsm2 : ((size + sz : Nat) : Int) ≤ most := by omega
                    have HFM : Hid ((ts ++ [(UInt8.ofNat y, l, d)]).flatMap tcC = ts.flatMap tcC ++ [.int .u8 (y : Int), .int .i64 (l : Int), .int .i64 (d : Int)]) := by show _ = _; rw [List.flatMap_append]; simp only [List.flatMap_cons, List.flatMap_nil, List.append_nil, tcC, HYY.out]
                    have HFL : Hid ((ts ++ [(UInt8.ofNat y, l, d)]).length = ll + 1) := by show _ = _; rw [List.length_append, HLN.out]; rfl
                    clear hdd hbig
                    go_wp2_with (first
                      | (go_at_call 206; refine (HJ.out _).mono ?_; rintro e w8 ⟨rfl, hb8⟩; have HI8 := Lib.hid (HI7.out.below hb8); have HI9 := Lib.hid (HI8.out.below ((Below.refl w8.heap.size w8).alloc (Nat.le_refl _) (.cells #[.int .u8 (y : Int), .int .i64 (l : Int), .int .i64 (d : Int)] 164))); clear hb8)
                      | (at_builtin; refine wpList_app ((w8.alloc (.cells #[.int .u8 (y : Int), .int .i64 (l : Int), .int .i64 (d : Int)] 164)).alloc (.cells #[.int .u8 (y : Int), .int .i64 (l : Int), .int .i64 (d : Int)] 164)) tcElem rfl (.tmp 75) (.tmp 77) rfl (w.heap.size + 1) (.slice Av ll cv) ll (ts.flatMap tcC) rfl (by have h := HI9.out.row; rw [HLN.out] at h; exact h.alloc _) (w8.heap.size + 2) (some ⟨w8.heap.size + 1, 0, none⟩) 1 1 [.int .u8 (y : Int), .int .i64 (l : Int), .int .i64 (d : Int)] rfl rfl (cells3_new w8 _ _ _ _ _) (by simp [Value.oneCell']) (by unfold maxLen; omega) (by omega) (by have := HI8.out.mod.size; have := (Array.getElem?_eq_some_iff.1 HI8.out.box).1; simp; omega) ?_; intro A7 c7 w9 hA; have HA7 := Lib.hid hA; clear hA))
                    have HI10 := Lib.hid ((HI9.out.below ((Below.refl _ _).alloc (Nat.le_refl _) _)).app (ts' := ts ++ [(UInt8.ofNat y, l, d)]) HSL.out HA7.out HFL.out.symm HFM.out.symm)
                    go_roundg j
                    case measure => omega
                    case rel => exact ⟨ts ++ [(UInt8.ofNat y, l, d)], size + sz, pp + on, rfl, by go_num, HTQ.out, by omega, by omega, .inr hsm2, by omega, by rw [HFL.out]; omega, ⟨A7, c7, by rw [HFL.out]⟩, HI10.out⟩
        · have HTQ : Hid (T = (er, [], 0)) := by show _ = _; rw [HTE.out, blkL, hC]; dsimp only; rw [if_pos her]
          have v1 : (er != 0) = true := by simpa using her
          clear hC
          go_wp2_with (go_at_call 205; refine HCL.out.mono ?_; rintro e w5 ⟨p5, rfl, hrd5, hpe5, hm5⟩; have HI5 := Lib.hid (HTI2.out.part HRL.out hm5 hrd5); have hrb5 : RowB w5 R _ _ _ := hm5.keep HRB.out (fun h => by have h2 : R = r := h; have := HRL.out; omega); have hpb5 : PtrB w5 R := hm5.keep HPB.out (fun h => by have h2 : R + 1 = r := h; have := HRL.out; omega); have HPB5 := Lib.hid hpb5; have hs5 := hm5.size; obtain ⟨q0, q1, q2, q3, q4, q5, q6⟩ := rowB_cells hrb5; obtain ⟨f0, f1, f2, f3, f4, f5, f6⟩ := rowB_free hrb5; obtain ⟨W6, hW6⟩ : ∃ W6, (((w5.setCell ⟨R, 0, none⟩ (.int .i64 (n : Int))).setCell ⟨R, 1, none⟩ (.int .i64 (b : Int))).setCell ⟨R, 2, none⟩ (.int .u32 (x : Int))) = W6 := ⟨_, rfl⟩; have hrb6 := hrb5.first (n, b, x); dsimp only at hrb6; rw [hW6] at hrb6; have hm6 : Mod (oneB R) w5 W6 := (by rw [← hW6]; exact set3_mod _ _ _ _ _ _ _ _); have HI6 := Lib.hid (HI5.out.other HSL.out (by omega) (HAV.out R (Nat.le_refl _)) hm6); have HRB6 := Lib.hid hrb6; have HPB6 := Lib.hid (show PtrB W6 R from hm6.keep HPB5.out (fun h => by have h2 : R + 1 = R := h; omega)); have hs6 := hm6.size; obtain ⟨s0, s1, s2, s3, s4, s5, s6⟩ := rowB_cells hrb6; obtain ⟨e0, e1, e2, e3, e4, e5, e6⟩ := rowB_free hrb6; clear hrd5 hpe5 hm5 hrb5 hpb5 hrb6 hm6)
          try rw [Exit.noGoto_ret]
          refine bodyPost_ret (results_tmp2 rfl _ _ _) rfl ?_
          exact HERR.out _ _ er _ HTQ.out (by first | decide | assumption) (by rfl) HI6.out.rd HI6.out.mod
      · have hgk : gk = 1 := by omega
        have HCL := Lib.hid (HTC.out gb 0 z2 wr (p' + on1) HR2.out (by omega) (HCB.out wr HTI2.out.mod) HTI2.out.rd)
        obtain ⟨C, hC⟩ : ∃ C, clsF F z2 0 L (p' + on1) = C := ⟨_, rfl⟩
        rw [hC] at HCL
        obtain ⟨er, ⟨n, b, x⟩, on⟩ := C
        dsimp only at HCL
        by_cases her : er = 0
        · subst her
          have HCC := Lib.hid hC
          have HC1 := Lib.hid hc1
          clear hC hc1
          have v1 : ((c1.1 : Int) == 256) = false := by simp; omega
          have v2 : decide ((256 : Int) < (c1.1 : Int)) = true := decide_eq_true (by omega)
          have v2n : decide (256 < c1.1) = true := decide_eq_true h256
          go_wp2_with (go_at_call 205; refine HCL.out.mono ?_; rintro e w5 ⟨p5, rfl, hrd5, hpe5, hm5⟩; have HI5 := Lib.hid (HTI2.out.part HRL.out hm5 hrd5); have hrb5 : RowB w5 R _ _ _ := hm5.keep HRB.out (fun h => by have h2 : R = r := h; have := HRL.out; omega); have hpb5 : PtrB w5 R := hm5.keep HPB.out (fun h => by have h2 : R + 1 = r := h; have := HRL.out; omega); have HPB5 := Lib.hid hpb5; have hs5 := hm5.size; obtain ⟨rfl, hon1, hnz, hb13, hx81⟩ := hpe5 (by first | rfl | trivial); obtain ⟨q0, q1, q2, q3, q4, q5, q6⟩ := rowB_cells hrb5; obtain ⟨f0, f1, f2, f3, f4, f5, f6⟩ := rowB_free hrb5; obtain ⟨W6, hW6⟩ : ∃ W6, (((w5.setCell ⟨R, 3, none⟩ (.int .i64 (n : Int))).setCell ⟨R, 4, none⟩ (.int .i64 (b : Int))).setCell ⟨R, 5, none⟩ (.int .u32 (x : Int))) = W6 := ⟨_, rfl⟩; have hrb6 := hrb5.second (n, b, x); dsimp only at hrb6; rw [hW6] at hrb6; have hm6 : Mod (oneB R) w5 W6 := (by rw [← hW6]; exact set3_mod _ _ _ _ _ _ _ _); have HI6 := Lib.hid (HI5.out.other HSL.out (by omega) (HAV.out R (Nat.le_refl _)) hm6); have HRB6 := Lib.hid hrb6; have HPB6 := Lib.hid (show PtrB W6 R from hm6.keep HPB5.out (fun h => by have h2 : R + 1 = R := h; omega)); have hs6 := hm6.size; obtain ⟨s0, s1, s2, s3, s4, s5, s6⟩ := rowB_cells hrb6; obtain ⟨e0, e1, e2, e3, e4, e5, e6⟩ := rowB_free hrb6; obtain ⟨W7, hW7⟩ : ∃ W7, W6.setCell ⟨R, 6, none⟩ (.bool true) = W7 := ⟨_, rfl⟩; have hrb7 := hrb6.third true; rw [hW7] at hrb7; have hm7 : Mod (oneB R) W6 W7 := (by rw [← hW7]; exact set1_mod _ _ _ _); have HI7 := Lib.hid (HI6.out.other HSL.out (by omega) (HAV.out R (Nat.le_refl _)) hm7); have HRB7 := Lib.hid hrb7; have HPB7 := Lib.hid (show PtrB W7 R from hm7.keep HPB6.out (fun h => by have h2 : R + 1 = R := h; omega)); have hs7 := hm7.size; obtain ⟨t0, t1, t2, t3, t4, t5, t6⟩ := rowB_cells hrb7; clear hrb7 hm7; clear hrd5 hpe5 hm5 hrb5 hpb5 hrb6 hm6)
          go_roundg 0
          case measure => omega
          case rel => exact ⟨rfl, 2, _, _, _, _, rfl, by go_num, HI7.out, HRB7.out, HPB7.out, by omega, .inr (.inr ⟨rfl, rfl, h256, h273, hcb, hcx, by show n < 30; omega, hb13, hx81, on1, on, HC1.out, HCC.out, rfl, hon⟩)⟩
        · have HTQ : Hid (T = (er, [], 0)) := by show _ = _; rw [HTE.out, blkL, hc1]; dsimp only; rw [if_neg (by simp), if_neg (by omega), hC]; dsimp only; rw [if_pos ⟨h256, her⟩]
          have v1 : (er != 0) = true := by simpa using her
          clear hC hc1
          go_wp2_with (go_at_call 205; refine HCL.out.mono ?_; rintro e w5 ⟨p5, rfl, hrd5, hpe5, hm5⟩; have HI5 := Lib.hid (HTI2.out.part HRL.out hm5 hrd5); have hrb5 : RowB w5 R _ _ _ := hm5.keep HRB.out (fun h => by have h2 : R = r := h; have := HRL.out; omega); have hpb5 : PtrB w5 R := hm5.keep HPB.out (fun h => by have h2 : R + 1 = r := h; have := HRL.out; omega); have HPB5 := Lib.hid hpb5; have hs5 := hm5.size; obtain ⟨q0, q1, q2, q3, q4, q5, q6⟩ := rowB_cells hrb5; obtain ⟨f0, f1, f2, f3, f4, f5, f6⟩ := rowB_free hrb5; obtain ⟨W6, hW6⟩ : ∃ W6, (((w5.setCell ⟨R, 3, none⟩ (.int .i64 (n : Int))).setCell ⟨R, 4, none⟩ (.int .i64 (b : Int))).setCell ⟨R, 5, none⟩ (.int .u32 (x : Int))) = W6 := ⟨_, rfl⟩; have hrb6 := hrb5.second (n, b, x); dsimp only at hrb6; rw [hW6] at hrb6; have hm6 : Mod (oneB R) w5 W6 := (by rw [← hW6]; exact set3_mod _ _ _ _ _ _ _ _); have HI6 := Lib.hid (HI5.out.other HSL.out (by omega) (HAV.out R (Nat.le_refl _)) hm6); have HRB6 := Lib.hid hrb6; have HPB6 := Lib.hid (show PtrB W6 R from hm6.keep HPB5.out (fun h => by have h2 : R + 1 = R := h; omega)); have hs6 := hm6.size; obtain ⟨s0, s1, s2, s3, s4, s5, s6⟩ := rowB_cells hrb6; obtain ⟨e0, e1, e2, e3, e4, e5, e6⟩ := rowB_free hrb6; clear hrd5 hpe5 hm5 hrb5 hpb5 hrb6 hm6)
          try rw [Exit.noGoto_ret]
          refine bodyPost_ret (results_tmp2 rfl _ _ _) rfl ?_
          exact HERR.out _ _ er _ HTQ.out (by first | decide | assumption) (by rfl) HI6.out.rd HI6.out.mod
      · have hgk : gk = 0 := by omega
        obtain ⟨n1, b1, x1⟩ := c1
        obtain ⟨n2, b2, x2⟩ := c2
        dsimp only at h256 h273 hcb hcx h30 hdb hdx
        have HTQ : Hid (T = match (joinR (n1 : Int) (b1 : Int) x1 (n2 : Int) (b2 : Int) x2 true) with
          | none => (3, [], 0)
          | some (y, l, d) => if size < d then (3, [], 0) else if most - (size : Int) < (max l 1 : Nat) then (5, [], 0) else blkL F z1 z2 L most j (ts ++ [(UInt8.ofNat y, l, d)]) (size + max l 1) (p' + on1 + on2)) := by
          show _ = _
          rw [HTE.out, blkL, hc1]
          dsimp only
          rw [if_neg (by simp), if_neg (by omega), hc2]
          dsimp only
          rw [if_neg (by simp), if_pos h256, if_pos h256]
          rfl
        clear hc1 hc2
        have hpl2 := (rd_low HTI2.out.rd).2.1
        have hLL := HLL.out
        obtain ⟨r0, r1, r2, r3, r4, r5, r6⟩ := rowB_cells HRB.out
        dsimp only at r0 r1 r2 r3 r4 r5 r6
        have HJ := Lib.hid (fun W => join_all (n1 := (n1 : Int)) (b1 := (b1 : Int)) (x1 := x1) (n2 := (n2 : Int)) (b2 := (b2 : Int)) (x2 := x2) true W (by omega) (by omega) (by omega) (by omega))
        obtain ⟨J, hJ⟩ : ∃ J, joinR (n1 : Int) (b1 : Int) x1 (n2 : Int) (b2 : Int) x2 true = J := ⟨_, rfl⟩
        rw [hJ] at HJ HTQ
        have HJB := Lib.hid (joinR_bd hJ)
        unfold agR at HJ
        clear hJ
        cases J with
        | none =>
          unfold joinV agT at HJ
          go_wp2_with (go_at_call 206; refine (HJ.out _).mono ?_; rintro e w8 ⟨rfl, hb8⟩; have HI8 := Lib.hid (HTI2.out.below hb8); have HI9 := Lib.hid (HI8.out.below ((Below.refl w8.heap.size w8).alloc (Nat.le_refl _) (.cells #[.int .u8 0, .int .i64 0, .int .i64 0] 164))); clear hb8)
          try rw [Exit.noGoto_ret]
          refine bodyPost_ret (results_tmp2 rfl _ _ _) rfl ?_
          exact HERR.out _ _ 3 _ HTQ.out (by first | decide | assumption) (by rfl) HI9.out.rd HI9.out.mod
        | some q =>
          obtain ⟨y, l, d⟩ := q
          unfold joinV agT at HJ
          dsimp only at HTQ
          obtain ⟨hy256, hl258, hd⟩ := HJB.out y l d rfl
          have HYY : Hid ((UInt8.ofNat y).toNat = y) := by show _ = _; simp; omega
          have hmax : max (l : Int) 1 = ((max l 1 : Nat) : Int) := by omega
          obtain ⟨sz, hsz⟩ : ∃ sz, max l 1 = sz := ⟨_, rfl⟩
          rw [hsz] at HTQ hmax
          have hsz1 : 1 ≤ sz ∧ sz ≤ 258 := by omega
          have hsub : IntKind.i64.wrap (most - (size : Int)) = most - (size : Int) := IntWalk.i64_in _ (by omega)
          clear hsz
          by_cases hdd : size < d
          · rw [if_pos hdd] at HTQ
            have u1 : decide ((size : Int) < (d : Int)) = true := decide_eq_true (by omega)
            have u1n : decide (size < d) = true := decide_eq_true hdd
            clear hdd hmax hsub
            go_wp2_with (go_at_call 206; refine (HJ.out _).mono ?_; rintro e w8 ⟨rfl, hb8⟩; have HI8 := Lib.hid (HTI2.out.below hb8); have HI9 := Lib.hid (HI8.out.below ((Below.refl w8.heap.size w8).alloc (Nat.le_refl _) (.cells #[.int .u8 (y : Int), .int .i64 (l : Int), .int .i64 (d : Int)] 164))); clear hb8)
            try rw [Exit.noGoto_ret]
            refine bodyPost_ret (results_tmp2 rfl _ _ _) rfl ?_
            exact HERR.out _ _ 3 _ HTQ.out (by first | decide | assumption) (by rfl) HI9.out.rd HI9.out.mod
          · rw [if_neg hdd] at HTQ
            have u1 : decide ((size : Int) < (d : Int)) = false := decide_eq_false (by omega)
            have u1n : decide (size < d) = false := decide_eq_false hdd
            by_cases hbig : most - (size : Int) < (sz : Int)
            · rw [if_pos hbig] at HTQ
              have u2 : decide (most - (size : Int) < (sz : Int)) = true := decide_eq_true hbig
              clear hdd hbig
              go_wp2_with (go_at_call 206; refine (HJ.out _).mono ?_; rintro e w8 ⟨rfl, hb8⟩; have HI8 := Lib.hid (HTI2.out.below hb8); have HI9 := Lib.hid (HI8.out.below ((Below.refl w8.heap.size w8).alloc (Nat.le_refl _) (.cells #[.int .u8 (y : Int), .int .i64 (l : Int), .int .i64 (d : Int)] 164))); clear hb8)
              try rw [Exit.noGoto_ret]
              refine bodyPost_ret (results_tmp2 rfl _ _ _) rfl ?_
              exact HERR.out _ _ 5 _ HTQ.out (by first | decide | assumption) (by rfl) HI9.out.rd HI9.out.mod
            · rw [if_neg hbig] at HTQ
              have u2 : decide (most - (size : Int) < (sz : Int)) = false := decide_eq_false hbig
              have hsm2 : ((size + sz : Nat) : Int) ≤ most := by omega
              have HFM : Hid ((ts ++ [(UInt8.ofNat y, l, d)]).flatMap tcC = ts.flatMap tcC ++ [.int .u8 (y : Int), .int .i64 (l : Int), .int .i64 (d : Int)]) := by show _ = _; rw [List.flatMap_append]; simp only [List.flatMap_cons, List.flatMap_nil, List.append_nil, tcC, HYY.out]
              have HFL : Hid ((ts ++ [(UInt8.ofNat y, l, d)]).length = ll + 1) := by show _ = _; rw [List.length_append, HLN.out]; rfl
              clear hdd hbig
              go_wp2_with (first
                | (go_at_call 206; refine (HJ.out _).mono ?_; rintro e w8 ⟨rfl, hb8⟩; have HI8 := Lib.hid (HTI2.out.below hb8); have HI9 := Lib.hid (HI8.out.below ((Below.refl w8.heap.size w8).alloc (Nat.le_refl _) (.cells #[.int .u8 (y : Int), .int .i64 (l : Int), .int .i64 (d : Int)] 164))); clear hb8)
                | (at_builtin; refine wpList_app ((w8.alloc (.cells #[.int .u8 (y : Int), .int .i64 (l : Int), .int .i64 (d : Int)] 164)).alloc (.cells #[.int .u8 (y : Int), .int .i64 (l : Int), .int .i64 (d : Int)] 164)) tcElem rfl (.tmp 75) (.tmp 77) rfl (w.heap.size + 1) (.slice Av ll cv) ll (ts.flatMap tcC) rfl (by have h := HI9.out.row; rw [HLN.out] at h; exact h.alloc _) (w8.heap.size + 2) (some ⟨w8.heap.size + 1, 0, none⟩) 1 1 [.int .u8 (y : Int), .int .i64 (l : Int), .int .i64 (d : Int)] rfl rfl (cells3_new w8 _ _ _ _ _) (by simp [Value.oneCell']) (by unfold maxLen; omega) (by omega) (by have := HI8.out.mod.size; have := (Array.getElem?_eq_some_iff.1 HI8.out.box).1; simp; omega) ?_; intro A7 c7 w9 hA; have HA7 := Lib.hid hA; clear hA))
              have HI10 := Lib.hid ((HI9.out.below ((Below.refl _ _).alloc (Nat.le_refl _) _)).app (ts' := ts ++ [(UInt8.ofNat y, l, d)]) HSL.out HA7.out HFL.out.symm HFM.out.symm)
              go_roundg j
              case measure => omega
              case rel => exact ⟨ts ++ [(UInt8.ofNat y, l, d)], size + sz, p' + on1 + on2, rfl, by go_num, HTQ.out, by omega, by omega, .inr hsm2, by omega, by rw [HFL.out]; omega, ⟨A7, c7, by rw [HFL.out]⟩, HI10.out⟩
theorem toksOf_tk {w:World} {A:Option Addr} {ts:List Tk} (h:∀ t ∈ ts,okT t) (hc:Cells w w.heap.size A (ts.map tkC).flatten):ToksOf w A ts.length ts:=by
 refine ⟨h,fun k t ht => ?_,.inl rfl⟩
 have c0:=code_at (tkC_len ts) (j:=0) ht rfl
 have c1:=code_at (tkC_len ts) (j:=1) ht rfl
 have c2:=code_at (tkC_len ts) (j:=2) ht rfl
 obtain ⟨b,o,h1,h2,h3⟩:=hc (by have:=(List.getElem?_eq_some_iff.1 c0).1;omega)
 exact ⟨b,o,h1,h2,h3 _ _ c0,by have h4:=h3 _ _ c1;rw [← Nat.add_assoc] at h4;exact h4,by have h4:=h3 _ _ c2;rw [← Nat.add_assoc] at h4;exact h4⟩
end Go.Proofs.YtaknladkodibaaaGreatDoor
namespace Go.Proofs.YtaknladkodibaaaGreatDoor
open Go.RowKit BitsP
attribute [local go_sem ↓] Go.wp_at_zero Go.wp_at_succ
theorem own_leP {w:World} {base base':Nat} {e:TypeId} {size n:Nat} {v:Value} {xs:List Value} (h:w.ownsRow base e size v n xs) (hb:base' ≤ base):w.ownsRow base' e size v n xs:=by
 obtain ⟨h1,h2⟩:=h
 refine ⟨h1,?_⟩
 rcases h2 with h2 | ⟨g,c,cur,hv,hg,h3⟩
 ·exact .inl h2
 ·exact .inr ⟨g,c,cur,hv,Nat.le_trans hb hg,h3⟩
end Go.Proofs.YtaknladkodibaaaGreatDoor
namespace Go.Proofs.YtaknladkodibaaaGreatDoor
open Go.RowKit BitsP SymP
attribute [local go_sem ↓] Go.wp_at_zero Go.wp_at_succ
def pkB (lv:Int) (bs:List UInt8):List UInt8:=pack (blkB (toks bs lv 0))
def pkM (lv:Int) (bs:List UInt8):Int × List UInt8:=if lv < 0 then (0,bs) else if (pkB lv bs).length < bs.length then (1,pkB lv bs) else (0,bs)
theorem tkAt_wr {w:World} {A:Option Addr} {k q:Nat} {y l d:Int} (h:TkAt w A k y l d) (hq:w.heap[q]? = some (.cells zeroWr 114 (0,0))):∀ a,A = some a→a.block ≠ q:=fun a ha he => by
 obtain ⟨b,o,h1,_,h3,_⟩:=h
 rw [h1] at ha
 cases ha
 have hb:b = q:=he
 subst hb
 rw [show w.cell? ⟨b,o + k * 3,none⟩ = zeroWr[o + k * 3]? from cell_of_row w b (o + k * 3) _ _ _ hq] at h3
 generalize o + k * 3 = m at h3
 match m,h3 with
 | 0,h3 => simp [zeroWr] at h3
 | 1,h3 => simp [zeroWr] at h3
 | 2,h3 => simp [zeroWr] at h3
 | m + 3,h3 => simp [zeroWr] at h3
set_option maxRecDepth 100000 in
set_option maxHeartbeats 1000000 in
theorem pack14_any (A:Option Addr) (l c:Nat) (bs:List UInt8) (lv:Int) (w:World) (hl:bs.length = l) (hm:l ≤ 32000) (hcap:l ≤ c) (hb:Bytes w w.heap.size A bs) :
  Calls Tryz.prog 31 #[.slice A l c,.int .i64 lv] w fun e w' => ∃ A' c',e = .returned (.tuple #[.int .i64 (pkM lv bs).1,.slice A' (pkM lv bs).2.length c',.int .i64 0])∧OwnB w' w.heap.size 5 (.slice A' (pkM lv bs).2.length c') (pkM lv bs).2.length (pkM lv bs).2∧Below w.heap.size w w':=by
 have t0:decide ((65536:Int) < (l:Int)) = false:=decide_eq_false (by omega)
 have HLL:=Lib.hid hl
 by_cases hlv:lv < 0
 ·have HE:Hid (pkM lv bs = (0,bs)):=by show _ = _;unfold pkM;rw [if_pos hlv]
  have HC:=Lib.hid (clone_any A l c w.heap.size bs w hl (by omega) (Nat.le_refl _) hb)
  have t1:decide (0 ≤ lv) = false:=decide_eq_false (by omega)
  rw [HE.out]
  dsimp only
  rw [hl]
  clear hl hb hlv
  go_enter Tryz.func31,Tryz.ntmps31
  go_wp2_with (go_at_call 68;refine HC.out.mono ?_;rintro e w2 ⟨A2,c2,rfl,hown2,hb2⟩;have HO2:=Lib.hid hown2;have HB2:=Lib.hid hb2;clear hown2 hb2)
  exact bodyPost_ret (results_tmp3 rfl _ _ _) rfl ⟨A2,c2,rfl,HO2.out,HB2.out⟩
 ·have t1:decide (0 ≤ lv) = true:=decide_eq_true (by omega)
  have hok:=toks_okT bs lv bs.length 0 (by omega)
  have hfew:=toks_few bs lv
  have hb1:Below w.heap.size w (w.alloc (.cells zeroWr 114)):=(Below.refl _ w).alloc (Nat.le_refl _) _
  have HB1:=Lib.hid hb1
  have HSP:=Lib.hid (split_any A l c bs lv (w.alloc (.cells zeroWr 114)) hl hm hcap ((hb.below hb1 (Nat.le_refl _)).more hb1.size))
  have HWZ:Hid (∀ W,Below (w.alloc (.cells zeroWr 114)).heap.size (w.alloc (.cells zeroWr 114)) W→W.heap[w.heap.size]? = some (.cells zeroWr 114 (0,0))):=fun W hW => (hW.block _ (by simp)).trans (heap_alloc_new w _)
  obtain ⟨ts,hts⟩:∃ ts,toks bs lv 0 = ts:=⟨_,rfl⟩
  have HPE:Hid (pkB lv bs = pack (blkB ts)):=by show _ = _;rw [pkB,hts]
  rw [hts] at hok hfew HSP
  have hfewB:=blkB_few hok
  have HPT:Hid (∀ (W:World) (A2:Option Addr) (c2:Nat),Cells W W.heap.size A2 (ts.map tkC).flatten→Below (w.alloc (.cells zeroWr 114)).heap.size (w.alloc (.cells zeroWr 114)) W→_):=fun W A2 c2 hc hW =>
   blkput_any A2 ts.length c2 w.heap.size w.heap.size ts (oneB w.heap.size) [] W rfl (by omega) hok (toksOf_tk hok hc).2.1 (fun h0 a ha hk => by
    obtain ⟨t,ht⟩:∃ t,ts[0]? = some t:=⟨_,List.getElem?_eq_getElem h0⟩
    exact tkAt_wr ((toksOf_tk hok hc).2.1 0 t ht) (HWZ.out W hW) a ha hk) (WrS.zero _ (HWZ.out W hW)) (by simp) (by have:=hW.size;simp at this;omega)
  have hPL:(pack (blkB ts)).length ≤ (blkB ts).length:=pack_length _
  obtain ⟨P,hP⟩:∃ P,pack (blkB ts) = P:=⟨_,rfl⟩
  have HPP:=Lib.hid hP
  rw [hP] at HPE hPL
  have hpl:P.length ≤ 3000000:=by omega
  have hbl:(blkB ts).length ≤ 3000000:=by omega
  have HBLL:=Lib.hid hbl
  obtain ⟨k,hk⟩:∃ k,ts.length = k:=⟨_,rfl⟩
  rw [hk] at HSP HPT
  obtain ⟨pl,hpl2⟩:∃ pl,P.length = pl:=⟨_,rfl⟩
  have HPL:=Lib.hid hpl2
  rw [hpl2] at hpl
  have HC:Hid (∀ W,Below w.heap.size w W→_):=fun W hW => clone_any A l c W.heap.size bs W hl (by omega) (Nat.le_refl _) ((hb.below hW (Nat.le_refl _)).more hW.size)
  unfold zeroWr at HSP HPT HB1
  by_cases hlt:pl < l
  ·have HE:Hid (pkM lv bs = (1,P)):=by show _ = _;unfold pkM;rw [if_neg hlv,HPE.out,if_pos (by rw [HPL.out,HLL.out];exact hlt)]
   rw [HE.out]
   dsimp only
   rw [HPL.out]
   have t2:decide ((pl:Int) < (l:Int)) = true:=decide_eq_true (by omega)
   have t2n:decide (pl < l) = true:=decide_eq_true hlt
   clear hl hb hlv hok hfew hb1 hts hfewB hP hk hpl2 hlt hPL hbl
   go_enter Tryz.func31,Tryz.ntmps31
   go_wp2_with (first
    | (go_at_call 66;refine HSP.out.mono ?_;rintro e w2 ⟨A2,c2,rfl,hc2,hb2⟩;have HB2:=Lib.hid (HB1.out.trans (hb2.mono HB1.out.size));have HPU:=Lib.hid (HPT.out w2 A2 c2 hc2 hb2);rw [List.nil_append] at HPU;clear hc2 hb2)
    | (go_at_call 65;refine HPU.out.mono ?_;rintro e w3 ⟨rfl,S3,hw3,hm3,hs3⟩;have HW3:=Lib.hid hw3;have HB3:=Lib.hid (hm3.below HB2.out HB2.out.size (fun k hk => by cases hk;exact Nat.le_refl _));clear hw3 hm3 hs3)
    | (go_at_call 67;refine (wbytes_any w.heap.size w.heap.size S3 (blkB ts) w3 HW3.out (by have:=HBLL.out;omega)).mono ?_;rintro e w5 ⟨A5,c5,rfl,hown,hbel⟩;rw [HPP.out,HPL.out] at hown;rw [HPP.out,HPL.out];have HO5:=Lib.hid (own_leP hown HB3.out.size);have HB5:=Lib.hid (HB3.out.trans (hbel.mono HB3.out.size));clear hown hbel))
   exact bodyPost_ret (results_tmp3 rfl _ _ _) rfl ⟨A5,c5,rfl,HO5.out,HB5.out⟩
  ·have HE:Hid (pkM lv bs = (0,bs)):=by show _ = _;unfold pkM;rw [if_neg hlv,HPE.out,if_neg (by rw [HPL.out,HLL.out];exact hlt)]
   rw [HE.out]
   dsimp only
   rw [HLL.out]
   have t2:decide ((pl:Int) < (l:Int)) = false:=decide_eq_false (by omega)
   have t2n:decide (pl < l) = false:=decide_eq_false hlt
   clear hl hb hlv hok hfew hb1 hts hfewB hP hk hpl2 hlt hPL hbl
   go_enter Tryz.func31,Tryz.ntmps31
   go_wp2_with (first
    | (go_at_call 66;refine HSP.out.mono ?_;rintro e w2 ⟨A2,c2,rfl,hc2,hb2⟩;have HB2:=Lib.hid (HB1.out.trans (hb2.mono HB1.out.size));have HPU:=Lib.hid (HPT.out w2 A2 c2 hc2 hb2);rw [List.nil_append] at HPU;clear hc2 hb2)
    | (go_at_call 65;refine HPU.out.mono ?_;rintro e w3 ⟨rfl,S3,hw3,hm3,hs3⟩;have HW3:=Lib.hid hw3;have HB3:=Lib.hid (hm3.below HB2.out HB2.out.size (fun k hk => by cases hk;exact Nat.le_refl _));clear hw3 hm3 hs3)
    | (go_at_call 67;refine (wbytes_any w.heap.size w.heap.size S3 (blkB ts) w3 HW3.out (by have:=HBLL.out;omega)).mono ?_;rintro e w5 ⟨A5,c5,rfl,hown,hbel⟩;rw [HPP.out,HPL.out];have HB5:=Lib.hid (HB3.out.trans (hbel.mono HB3.out.size));clear hown hbel)
    | (go_at_call 68;refine (HC.out _ HB5.out).mono ?_;rintro e w6 ⟨A6,c6,rfl,hown6,hb6⟩;have HO6:=Lib.hid (own_leP hown6 HB5.out.size);have HB6:=Lib.hid (HB5.out.trans (hb6.mono HB5.out.size));clear hown6 hb6))
   exact bodyPost_ret (results_tmp3 rfl _ _ _) rfl ⟨A6,c6,rfl,HO6.out,HB6.out⟩
end Go.Proofs.YtaknladkodibaaaGreatDoor
namespace Go.Proofs.YtaknladkodibaaaGreatDoor
open Go.RowKit CrcP FieldP BitsP SymP
attribute [local go_sem ↓] Go.wp_at_zero Go.wp_at_succ
def recB (lv:Int) (s:ByteArray) (bs:List UInt8):List UInt8:=headB (pkM lv bs).1.toNat s.data.toList bs.length (pkM lv bs).2.length (CrcP.sumN (pkM lv bs).2)++(pkM lv bs).2
theorem pkM_two (lv:Int) (bs:List UInt8):∃ m:Nat,(pkM lv bs).1 = (m:Int)∧((m = 0∧(pkM lv bs).2.length = bs.length) ∨ (m = 1∧(pkM lv bs).2.length < bs.length)):=by
 unfold pkM
 split
 ·exact ⟨0,rfl,.inl ⟨rfl,rfl⟩⟩
 ·split
  ·exact ⟨1,rfl,.inr ⟨rfl,by assumption⟩⟩
  ·exact ⟨0,rfl,.inl ⟨rfl,rfl⟩⟩
theorem hdB_pk {s:ByteArray} {m sz ar su:Nat} (hr:rightB s.data.toList = true) (hz:sz ≤ 65536) (h:(m = 0∧ar = sz) ∨ (m = 1∧ar < sz)):hdB m s.data.toList sz ar su = true:=by
 unfold hdB
 rw [hr]
 rcases h with ⟨rfl,rfl⟩ | ⟨rfl,h⟩
 ·simp;omega
 ·simp;omega
theorem recB_len (lv:Int) (s:ByteArray) (bs:List UInt8):(recB lv s bs).length = 22 + s.size + (pkM lv bs).2.length:=by
 unfold recB
 rw [List.length_append,headB_length]
 rfl
set_option maxRecDepth 100000 in
set_option maxHeartbeats 1000000 in
theorem recPut_no (tg:Nat) (v:Value) (s:ByteArray) (lv:Int) (w:World) (hs:s.size ≤ maxLen) (hr:rightB s.data.toList = false) :
  Calls Tryz.prog 12 #[.pointer (some ⟨tg,0,none⟩),.string s,v,.int .i64 lv] w fun e w' => e = .returned (.tuple #[.slice none 0 0,.int .i64 6])∧Below w.heap.size w w':=by
 have HR:=Lib.hid (rightM_any s w hs)
 rw [hr] at HR
 clear hs hr
 go_enter Tryz.func12,Tryz.ntmps12
 go_wp2_with (go_at_call 30;refine HR.out.mono ?_;rintro e w1 ⟨rfl,hb1⟩;have HB1:=Lib.hid hb1;clear hb1)
 exact bodyPost_ret (results_tmp2 rfl _ _ _) rfl ⟨rfl,HB1.out⟩
set_option maxRecDepth 100000 in
set_option maxHeartbeats 2000000 in
theorem recPut_yes (tg:Nat) (A:Option Addr) (l c:Nat) (bs:List UInt8) (s:ByteArray) (lv:Int) (w:World) (hT:Table w tg) (hW:Wid w) (hs:s.size ≤ maxLen) (hr:rightB s.data.toList = true) (hl:bs.length = l) (hm:l ≤ 32000) (hcap:l ≤ c) (hb:Bytes w w.heap.size A bs) :
  Calls Tryz.prog 12 #[.pointer (some ⟨tg,0,none⟩),.string s,.slice A l c,.int .i64 lv] w fun e w' => ∃ A' c',e = .returned (.tuple #[.slice A' (recB lv s bs).length c',.int .i64 0])∧OwnY w' w.heap.size (.slice A' (recB lv s bs).length c') (recB lv s bs).length (recB lv s bs)∧Below w.heap.size w w':=by
 have HR:=Lib.hid (rightM_any s w hs)
 rw [hr] at HR
 have htl:=hT.lt
 have hw0:=hW.1
 have h64:=rightB_len' hr
 have hss:s.data.toList.length = s.size:=by rw [Array.length_toList];rfl
 rw [hss] at h64
 have HPK:Hid (∀ W,Below w.heap.size w W→_):=fun W hW => pack14_any A l c bs lv W hl hm hcap ((hb.below hW (Nat.le_refl _)).more hW.size)
 obtain ⟨m,hpm,hpc⟩:=pkM_two lv bs
 rw [recB_len]
 have hRB:recB lv s bs = headB m s.data.toList l (pkM lv bs).2.length (CrcP.sumN (pkM lv bs).2)++(pkM lv bs).2:=by unfold recB;rw [hpm,hl];rfl
 rw [hRB]
 rw [hpm] at HPK
 rw [hl] at hpc
 obtain ⟨P,hP⟩:∃ P,(pkM lv bs).2 = P:=⟨_,rfl⟩
 rw [hP] at HPK hpc ⊢
 obtain ⟨n,hn⟩:∃ n,P.length = n:=⟨_,rfl⟩
 rw [hn] at HPK hpc ⊢
 have HN:=Lib.hid hn
 have hn2:n ≤ 32000:=by omega
 have hsl:=sumN_lt P
 have HSU:Hid (∀ (W:World) (A2:Option Addr) (c2:Nat),Bytes W W.heap.size A2 P→Below w.heap.size w W→_):=fun W A2 c2 h2 hW => sum_any tg A2 n c2 P W.heap.size W hn (by omega) (hT.below hW htl) h2
 obtain ⟨su,hsu⟩:∃ su,CrcP.sumN P = su:=⟨_,rfl⟩
 rw [hsu] at HSU hsl ⊢
 have HLP:Hid (∀ W,Below w.heap.size w W→_):=fun W hW' => lcPut_yes tg m s l n su W (hW.below hW' hw0 (by have:=hW'.size;omega)) hsl (hdB_pk hr (by omega) hpc) (hT.below hW' htl)
 obtain ⟨HD,hHD⟩:∃ HD,headB m s.data.toList l n su = HD:=⟨_,rfl⟩
 rw [hHD] at HLP ⊢
 clear hT hW hs hr hl hb hpm hRB hP hn hsu hHD hpc hss
 go_enter Tryz.func12,Tryz.ntmps12
 go_wp2_with (first
  | (go_at_call 30;refine HR.out.mono ?_;rintro e w1 ⟨rfl,hb1⟩;have HB1:=Lib.hid hb1;clear hb1)
  | (go_at_call 31;refine (HPK.out w1 HB1.out).mono ?_;rintro e w2 ⟨A2,c2,rfl,hown2,hb2⟩;have HC2:=Lib.hid (Cells.of_own hown2);have HB2:=Lib.hid (HB1.out.trans (hb2.mono HB1.out.size));clear hown2 hb2)
  | (go_at_call 33;refine (HSU.out w2 A2 c2 HC2.out HB2.out).mono ?_;rintro e w3 ⟨rfl,rfl⟩)
  | (go_at_call 32;refine (HLP.out w2 HB2.out).mono ?_;rintro e w4 ⟨A4,c4,rfl,ho4,hb4⟩;have HO4:=Lib.hid (ho4.le HB2.out.size);have HC4:=Lib.hid (HC2.out.below hb4 (Nat.le_refl _));have HB4:=Lib.hid (HB2.out.trans (hb4.mono HB2.out.size));clear ho4 hb4)
  | (at_builtin;refine wpList_appT w4 byteElem rfl (.tmp 43) (.tmp 44) rfl w.heap.size (.slice A4 (22 + s.size) c4) (22 + s.size) (byteCells HD) rfl HO4.out w2.heap.size A2 n c2 (byteCells P) rfl (by rw [byteCells_length,HN.out]) HC4.out (byteCells_one _) (by unfold maxLen;omega) (by omega) HB4.out.size ?_;intro A5 c5 w5 hap;have HAP:=Lib.hid hap;clear hap))
 refine bodyPost_ret (results_tmp2 rfl _ _ _) rfl ?_
 refine ⟨A5,c5,rfl,?_,HAP.out.below HB4.out HB4.out.size (fun k hk => (HO4.out.lt k hk).1)⟩
 have h:=HAP.out.own
 unfold OwnY
 rw [byteCells_append]
 exact h
end Go.Proofs.YtaknladkodibaaaGreatDoor
namespace Go.Proofs.YtaknladkodibaaaGreatDoor
open Go.RowKit CrcP FieldP
attribute [local go_sem ↓] Go.wp_at_zero Go.wp_at_succ
theorem headB_begin (m:Nat) (l:List UInt8) (sz ar su:Nat):(headB m l sz ar su).take 4 = headBytes:=by
 rw [headB_parts]
 rfl
theorem no_tomb {bs:List UInt8} {p:Nat} (h:(bs.drop p).take 4 = headBytes):isB tombBytes bs p = false:=by
 have hl:p + 4 ≤ bs.length:=by
  have h2:=congrArg List.length h
  rw [List.length_take,List.length_drop] at h2
  have h3:headBytes.length = 4:=rfl
  omega
 rw [isB_in (mk:=tombBytes) (by show p + 4 ≤ _;exact hl),show tombBytes.length = 4 from rfl,h]
 decide
theorem head_at {bs:List UInt8} {p m sz ar su:Nat} {s:ByteArray} (hd:hdB m s.data.toList sz ar su = true) (hsu:su < 4294967296) (h:(bs.drop p).take (22 + s.size) = headB m s.data.toList sz ar su) :
  p + 22 + s.size ≤ bs.length∧isB tombBytes bs p = false∧lcAns bs p = .tuple #[.agg #[.int .i64 (m:Int),.string s,.int .i64 (sz:Int),.int .i64 (ar:Int),.int .u32 (su:Int)],.int .i64 ((p + 22 + s.size:Nat):Int),.int .i64 0]:=by
 have hss:s.data.toList.length = s.size:=by rw [Array.length_toList];rfl
 obtain ⟨h1,h2,h3⟩:=head_back (bs:=bs) (l:=s.data.toList) (p:=p) (m:=m) (sz:=sz) (ar:=ar) (su:=su) hd hsu (by rw [hss];exact h)
 rw [hss] at h1 h3
 have h4:(bs.drop p).take 4 = headBytes:=by
  have h5:=congrArg (List.take 4) h
  rw [List.take_take,headB_begin] at h5
  rwa [Nat.min_eq_left (by omega)] at h5
 refine ⟨h1,no_tomb h4,?_⟩
 unfold lcAns
 rw [if_neg (by omega),if_neg (by rw [h2];simp),Int.toNat_natCast,h3]
theorem sumN_none:CrcP.sumN [] = 0:=by decide
def nameA:ByteArray:=⟨#[97]⟩
theorem nameA_right:rightB nameA.data.toList = true:=by decide
theorem recB_a:recB 0 nameA [] = headB 0 nameA.data.toList 0 0 0:=by
 have h:pkM 0 [] = (0,[]):=by
  unfold pkM
  rw [if_neg (by decide),if_neg (by simp)]
 unfold recB
 rw [h]
 show headB 0 nameA.data.toList 0 0 (CrcP.sumN [])++[] = _
 rw [sumN_none,List.append_nil]
theorem rec_a:isB tombBytes (recB 0 nameA []) 0 = false∧lcAns (recB 0 nameA []) 0 = .tuple #[.agg #[.int .i64 0,.string nameA,.int .i64 0,.int .i64 0,.int .u32 0],.int .i64 23,.int .i64 0]:=by
 have h:=head_at (bs:=headB 0 nameA.data.toList 0 0 0) (p:=0) (m:=0) (sz:=0) (ar:=0) (su:=0) (s:=nameA) (by decide) (by decide) (by rw [List.drop_zero];exact List.take_of_length_le (by rw [headB_length];exact Nat.le_refl _))
 rw [recB_a]
 exact h.2
set_option maxHeartbeats 400000 in
theorem recLen_any (k:Int) (S:ByteArray) (a b c d e f g:Int) (w:World) :
  Calls Tryz.prog 18 #[.agg #[.int .i64 k,.string S,.int .i64 a,.int .i64 b,.int .i64 c,.int .i64 d,.int .u32 e,.int .i64 f,.int .i64 g]] w fun x w' => x = .returned (.int .i64 (wrap64 (g - a)))∧w.alloc (.cells #[.int .i64 k,.string S,.int .i64 a,.int .i64 b,.int .i64 c,.int .i64 d,.int .u32 e,.int .i64 f,.int .i64 g] 41) = w':=by
 go_enter Tryz.func18,Tryz.ntmps18
 go_wp2
 go_ret
 exact ⟨rfl,rfl⟩
set_option maxRecDepth 100000 in
set_option maxHeartbeats 1000000 in
theorem lives22_any (w:World) (hW:Wid w):Calls Tryz.prog 10 #[] w fun e w' => e = .returned (.bool true)∧Below w.heap.size w w':=by
 have hz:=(zero_of_info tableInfo).1
 have HSZ:=Lib.hid tableSize
 have hw0:=hW.1
 have HWI:=Lib.hid hW
 have HN:Hid ((recB 0 nameA []).length = 23):=by show _ = _;rw [recB_a,headB_length];rfl
 have HV:=Lib.hid rec_a
 have HLN:=Lib.hid (fun W => recLen_any 1 nameA 0 23 0 0 0 0 23 W)
 rw [show wrap64 ((23:Int) - 0) = 23 from by unfold wrap64;omega] at HLN
 have htA:nameA.toList = [97]:=by rw [ByteArray.toList_eq];rfl
 have HP:=Lib.hid (fun g W (hV:Wid W) (hT:Table W g) => recPut_yes g none 0 0 [] nameA 0 W hT hV (by decide) nameA_right rfl (by omega) (Nat.le_refl _) (Cells.nil _ _ _))
 clear hW
 go_enter Tryz.func10,Tryz.ntmps10
 go_wp2_with fail
 refine (make_any _).mono ?_
 rintro e w1 ⟨rfl,hb⟩
 have HG:=Lib.hid (heap_alloc_last w1 (.cells (Array.replicate 256 (.int .u32 0)) 28))
 have HB:=Lib.hid hb
 clear hb
 go_wp2_with (refine wpList_store_row rfl 28 _ _ rfl w1.heap.size tabCells rfl rfl 28 _ HG.out HSZ.out (by rw [Array.size_replicate,tabCells_size]) tabCells_one ?_;rw [World.setRow_alloc_new])
 have HTB:=Lib.hid (table_new w1)
 have HB2:=Lib.hid (HB.out.alloc HB.out.size (.cells tabCells 28))
 generalize w1.alloc (.cells tabCells 28) = w2 at *
 clear hz HG HSZ
 refine (HP.out w1.heap.size w2 (HWI.out.below HB2.out hw0 (by have:=HB2.out.size;omega)) HTB.out).mono ?_
 rintro e w3 ⟨A,c,rfl,hown,hbel⟩
 rw [HN.out] at hown ⊢
 have HO3:=Lib.hid hown
 have HB3:=Lib.hid (HB2.out.trans (hbel.mono HB2.out.size))
 have HT3:=Lib.hid (HTB.out.below hbel HTB.out.lt)
 have hc:23 ≤ c:=own_capK hown
 clear hown hbel
 have HTK:=Lib.hid (recTake_plain w1.heap.size A 23 c _ 0 w3 0 nameA 0 0 0 23 HT3.out (HWI.out.below HB3.out hw0 (by have:=HB3.out.size;omega)) HN.out (by omega) hc (by omega) (by omega) HO3.out.cells HV.out.1 HV.out.2 (by decide) (by decide))
 rw [show (23:Int) + 0 = 23 from rfl] at HTK
 unfold recOk at HTK
 go_wp2_with (first
  | (go_at_call 16;refine HTK.out.mono ?_;rintro e w4 ⟨rfl,hbw⟩;have HB4:=Lib.hid (HB3.out.trans (hbw.mono HB3.out.size));have HB5:=Lib.hid (HB4.out.alloc HB4.out.size (.cells #[.int .i64 1,.string nameA,.int .i64 0,.int .i64 23,.int .i64 0,.int .i64 0,.int .u32 0,.int .i64 0,.int .i64 23] 41));clear hbw)
  | (go_at_call 18;refine (HLN.out _).mono ?_;rintro e w6 ⟨rfl,hw6⟩;have HB6:Hid (Below w.heap.size w w6):=(by show Below _ _ _;rw [← hw6];exact HB5.out.alloc HB5.out.size _)))
 go_ret
 exact ⟨rfl,HB6.out⟩
end Go.Proofs.YtaknladkodibaaaGreatDoor
namespace Go.Proofs.YtaknladkodibaaaGreatDoor
open Go.RowKit CrcP FieldP
theorem str_at {ls:List PcV} (h:∀ x ∈ ls,x.1.length ≤ 65535) (h1:sumP ls ≤ 65535) (h2:ls.length ≤ 1000) (P T:List UInt8) (s:ByteArray) (hr:rightB s.data.toList = true) :
  recV (P++(strB s ls++T)) P.length = recOk 1 s (P.length:Nat) ((P.length + 22 + s.size:Nat):Int) ((arP ls).length:Nat) (sumP ls:Nat) (CrcP.sumN (arP ls):Nat) 2 ((P.length + (strB s ls).length:Nat):Int):=by
 obtain ⟨_,hdb⟩:=ofV_stream h h1 h2
 change dcB _ ((arP ls).length:Nat) = true at hdb
 have hss:s.data.toList.length = s.size:=by rw [Array.length_toList];rfl
 have hHL:(headB 2 s.data.toList 0 0 0).length = 22 + s.size:=by rw [headB_length,hss]
 have e0:P++(strB s ls++T) = P++(headB 2 s.data.toList 0 0 0++(arP ls++(descB (sumP ls:Nat) ((arP ls).length:Nat) (CrcP.sumN (arP ls):Nat)++T))):=by
  unfold strB
  simp only [List.append_assoc]
 have hhd:((P++(strB s ls++T)).drop P.length).take (22 + s.size) = headB 2 s.data.toList 0 0 0:=by
  rw [e0,List.drop_left,← hHL,List.take_left]
 obtain ⟨_,hi,ha⟩:=head_at (m:=2) (sz:=0) (ar:=0) (su:=0) (hdB_str hr) (by decide) hhd
 have e1:P++(strB s ls++T) = (P++headB 2 s.data.toList 0 0 0)++(pcsB ls++([0,0]++(descB (sumP ls:Nat) ((arP ls).length:Nat) (CrcP.sumN (arP ls):Nat)++T))):=by
  rw [e0]
  unfold arP
  simp only [List.append_assoc]
 have hpl:(P++headB 2 s.data.toList 0 0 0).length = P.length + 22 + s.size:=by rw [List.length_append,hHL];omega
 have hal:(arP ls).length = (pcsB ls).length + 2:=by unfold arP;rw [List.length_append];rfl
 have hE:endV (P++(strB s ls++T)) ((P.length + 22 + s.size:Nat):Int) = .tuple #[.int .i64 ((P.length + 22 + s.size + (arP ls).length:Nat):Int),.int .i64 0]:=by
  have h3:=end_stream ls h (P++headB 2 s.data.toList 0 0 0) (descB (sumP ls:Nat) ((arP ls).length:Nat) (CrcP.sumN (arP ls):Nat)++T)
  rw [← e1,hpl] at h3
  have hle:P.length + 22 + s.size ≤ (P++(strB s ls++T)).length:=by
   rw [e1,List.length_append,hpl]
   omega
  unfold endV
  rw [if_neg (by omega),Int.toNat_natCast,h3,hal]
  show Value.tuple #[.int .i64 ((P.length + 22 + s.size + (pcsB ls).length + 2:Nat):Int),.int .i64 0] = _
  rw [show P.length + 22 + s.size + (pcsB ls).length + 2 = P.length + 22 + s.size + ((pcsB ls).length + 2) from by omega]
 have e2:P++(strB s ls++T) = (P++headB 2 s.data.toList 0 0 0++arP ls)++(descB (sumP ls:Nat) ((arP ls).length:Nat) (CrcP.sumN (arP ls):Nat)++T):=by
  rw [e0]
  simp only [List.append_assoc]
 have hpl2:(P++headB 2 s.data.toList 0 0 0++arP ls).length = P.length + 22 + s.size + (arP ls).length:=by rw [List.length_append,hpl]
 obtain ⟨hd0,hda⟩:=desc_back (a:=P++headB 2 s.data.toList 0 0 0++arP ls) (s:=descB (sumP ls:Nat) ((arP ls).length:Nat) (CrcP.sumN (arP ls):Nat)) (n:=sumP ls) (l:=(arP ls).length) (m:=CrcP.sumN (arP ls)) T hdb (sumN_lt _) rfl
 rw [← e2,hpl2] at hd0 hda
 have hK:(22:Int) + 0 = 22:=rfl
 rw [recV_lc hi ha,show ((2:Nat):Int) = 2 from rfl,recLc2_ds hE,recDs_in hda]
 unfold recDs2
 rw [if_pos hd0,if_pos (by omega),strB_len]
 congr 1
 omega
end Go.Proofs.YtaknladkodibaaaGreatDoor
namespace Go.Proofs.YtaknladkodibaaaGreatDoor
open Go.RowKit BitsP SymP
end Go.Proofs.YtaknladkodibaaaGreatDoor
namespace Go.Proofs.YtaknladkodibaaaGreatDoor
open Go.RowKit BitsP
end Go.Proofs.YtaknladkodibaaaGreatDoor
namespace Go.Proofs.YtaknladkodibaaaGreatDoor
open Go.RowKit BitsP SymP
attribute [local go_sem ↓] Go.wp_at_zero Go.wp_at_succ
def szs (ts:List Tk):Nat:=(ts.map fun t => max t.2.1 1).sum
theorem szs_snoc (ts:List Tk) (t:Tk):szs (ts++[t]) = szs ts + max t.2.1 1:=by simp [szs]
structure RTI (w3 W:World) (G:Nat) (v:Value) (size pp:Nat) (ts:List Tk):Prop where
 box:W.heap[G]? = some (.cells #[v,.int .i64 (size:Int),.int .i64 (pp:Int),.int .i64 0] 150 (0,0))
 row:W.ownsRow (G + 1) 164 3 v ts.length (ts.flatMap tcC)
 bel:Below G w3 W
theorem RTI.lt {w3 W:World} {G:Nat} {v:Value} {size pp:Nat} {ts:List Tk} (h:RTI w3 W G v size pp ts):G < W.heap.size:=(Array.getElem?_eq_some_iff.1 h.box).1
theorem RTI.below {w3 W W':World} {G:Nat} {v:Value} {size pp:Nat} {ts:List Tk} (h:RTI w3 W G v size pp ts) (hb:Below W.heap.size W W'):RTI w3 W' G v size pp ts :=
 ⟨(hb.block _ h.lt).trans h.box,own_keep h.row (Mod.of_below hb) (fun _ _ h => h),h.bel.trans (hb.mono (Nat.le_of_lt h.lt))⟩
theorem rti_row {w:World} {G:Nat} {base:Nat} {e:TypeId} {size n:Nat} {v:Value} {xs:List Value} (h:w.ownsRow base e size v n xs) (hb:G < base) (i:Nat) (u:Value):(w.setCell ⟨G,i,none⟩ u).ownsRow base e size v n xs :=
 own_keep h (set1_mod w G i u) (fun k hk h2 => by have h3:=own_base h k hk;have h4:k = G:=h2;omega)
theorem RTI.at_ {w3 W:World} {G:Nat} {v:Value} {size pp:Nat} {ts:List Tk} (h:RTI w3 W G v size pp ts) (q:Nat):RTI w3 (W.setCell ⟨G,2,none⟩ (.int .i64 (q:Int))) G v size q ts :=
 ⟨heap_setCell_same W G 2 _ _ _ h.box,rti_row h.row (Nat.lt_succ_self _) 2 _,h.bel.setCell (Nat.le_refl _) _⟩
theorem RTI.more {w3 W w10:World} {G:Nat} {v v':Value} {size pp m:Nat} {ts ts':List Tk} {xs:List Value} (h:RTI w3 W G v size pp ts) (ha:App W (G + 1) 164 3 v m xs w10 v') (hm:m = ts'.length) (hx:xs = ts'.flatMap tcC) (z:Nat) :
  RTI w3 ((w10.setCell ⟨G,0,none⟩ v').setCell ⟨G,1,none⟩ (.int .i64 (z:Int))) G v' z pp ts':=by
 have hv:∀ k,ownS v k→G + 1 ≤ k:=fun k hk => own_base h.row k hk
 have hb:=(Mod.of_app ha).keep h.box (fun hk => by have:=hv _ hk;omega)
 refine ⟨heap_setCell_same _ G 1 _ _ _ (heap_setCell_same w10 G 0 _ _ _ hb),?_,?_⟩
 ·have hr:=ha.own
  rw [hm,hx] at hr
  exact rti_row (rti_row hr (Nat.lt_succ_self _) 0 _) (Nat.lt_succ_self _) 1 _
 ·exact ((ha.below h.bel (Nat.le_of_lt h.lt) (fun k hk => by have:=hv k hk;omega)).setCell (Nat.le_refl _) _).setCell (Nat.le_refl _) _
def RtQ (w:World) (lr:Nat) (t:Int × List Tk × Nat) (e:Ending) (w':World):Prop :=
 ∃ (A:Option Addr) (c sz at_:Nat),e = .returned (.agg #[.slice A t.2.1.length c,.int .i64 (sz:Int),.int .i64 (at_:Int),.int .i64 t.1])∧(t.1 = 0→sz = szs t.2.1∧at_ = t.2.2∧at_ ≤ lr)∧w'.ownsRow w.heap.size 164 3 (.slice A t.2.1.length c) t.2.1.length (t.2.1.flatMap tcC)∧Below w.heap.size w w'
theorem set4_below {w W:World} {B R:Nat} (h:Below B w W) (hR:B ≤ R) (a b c d:Value):Below B w ((((W.setCell ⟨R,0,none⟩ a).setCell ⟨R,1,none⟩ b).setCell ⟨R,2,none⟩ c).setCell ⟨R,3,none⟩ d) :=
 (((h.setCell hR _).setCell hR _).setCell hR _).setCell hR _
theorem RtQ.err {w W:World} {lr R:Nat} {t:Int × List Tk × Nat} {er:Int} (ht:t = (er,[],0)) (h0:er ≠ 0) (hR:w.heap.size = R) (hb:Below R w W) (a b c d:Value) :
  RtQ w lr t (.returned (.agg #[.slice none 0 0,.int .i64 0,.int .i64 0,.int .i64 er])) ((((W.setCell ⟨R,0,none⟩ a).setCell ⟨R,1,none⟩ b).setCell ⟨R,2,none⟩ c).setCell ⟨R,3,none⟩ d):=by
 subst ht
 subst hR
 exact ⟨none,0,0,0,rfl,fun h => absurd h h0,World.ownsRow_nil _ _ _ _,set4_below hb (Nat.le_refl _) _ _ _ _⟩
end Go.Proofs.YtaknladkodibaaaGreatDoor
namespace Go.Proofs.YtaknladkodibaaaGreatDoor
open BitsP SymP
theorem expE_app {most:Int}:∀ (L1 L2:List Ti) (out o1:List UInt8),expE most L1 out = (0,o1)→expE most (L1++L2) out = expE most L2 o1
 | [],L2,out,o1,h => by
  rw [expE] at h
  rw [List.nil_append,← (Prod.mk.inj h).2]
 | t :: L1,L2,out,o1,h => by
  rw [expE] at h
  rw [List.cons_append,expE]
  split at h
  ·cases (Prod.mk.inj h).1
  ·rename_i h1
   split at h
   ·cases (Prod.mk.inj h).1
   ·rename_i h2
    rw [if_neg h1,if_neg h2]
    exact expE_app L1 L2 _ o1 h
theorem ti_szT (t:Tk):szT (ti t) = (max t.2.1 1:Nat):=by
 unfold szT ti
 dsimp only
 split <;> omega
theorem joinR_okX {n1 b1:Int} {x1:Nat} {n2 b2:Int} {x2:Nat} {m:Bool} {y l d:Nat} (h:joinR n1 b1 x1 n2 b2 x2 m = some (y,l,d)):okX (ti (UInt8.ofNat y,l,d)) = true:=by
 unfold joinR at h
 split at h
 ·split at h
  ·simp only [Option.some.injEq,Prod.mk.injEq] at h
   obtain ⟨_,rfl,rfl⟩:=h
   rfl
  ·cases h
 ·split at h
  ·rename_i hc
   simp only [Option.some.injEq,Prod.mk.injEq] at h
   obtain ⟨rfl,rfl,rfl⟩:=h
   have h1:vN (n1 - 257) b1 x1 < 256:=valC_low (by omega)
   have h2:=vN_lt n2 b2 x2
   unfold okX ti
   dsimp only
   rw [if_neg (by omega)]
   simp
   omega
  ·cases h
theorem blkL_exp {F:List Int→List Bool→Int × Int × Nat} {z1 z2:List Int} {L:List Bool} {most:Int}:∀ (k:Nat) (pre:List Tk) (size p:Nat) (ts:List Tk) (q:Nat),blkL F z1 z2 L most k pre size p = (0,ts,q) →
  (∃ out,expE most (pre.map ti) [] = (0,out)∧out.length = size)→size = szs pre→∃ out,expE most (ts.map ti) [] = (0,out)∧out.length = szs ts
 | 0,pre,size,p,ts,q,h,_,_ => by
  rw [blkL] at h
  cases (Prod.mk.inj h).1
 | k + 1,pre,size,p,ts,q,h,⟨out,ho,hl⟩,hs => by
  rw [blkL] at h
  split at h
  ·rename_i h1
   exact absurd (Prod.mk.inj h).1 h1
  split at h
  ·have h2:=(Prod.mk.inj (Prod.mk.inj h).2).1
   subst h2
   exact ⟨out,ho,by rw [hl,hs]⟩
  split at h
  ·rename_i h1
   exact absurd (Prod.mk.inj h).1 h1.2
  split at h
  ·cases (Prod.mk.inj h).1
  ·rename_i y l d hj
   split at h
   ·cases (Prod.mk.inj h).1
   rename_i hd
   split at h
   ·cases (Prod.mk.inj h).1
   rename_i hm
   have hok:okX (ti (UInt8.ofNat y,l,d)) = true:=by
    split at hj
    ·exact joinR_okX hj
    ·exact joinR_okX hj
   have hsz:=ti_szT (UInt8.ofNat y,l,d)
   dsimp only at hsz
   refine blkL_exp k (pre++[(UInt8.ofNat y,l,d)]) (size + max l 1) _ ts q h ⟨putT (ti (UInt8.ofNat y,l,d)) out,?_,?_⟩ ?_
   ·rw [List.map_append,expE_app _ _ _ _ ho]
    show expE most [ti (UInt8.ofNat y,l,d)] out = _
    rw [expE,if_neg (by rw [hok];simp;show ((d:Nat):Int) ≤ (out.length:Int);omega),if_neg (by rw [hsz,hl];omega),expE]
   ·have h3:=putT_len out hok
    rw [hsz,hl] at h3
    omega
   ·rw [szs_snoc,← hs]
theorem blkF_exp {F:List Int→List Bool→Int × Int × Nat} {L:List Bool} {p:Nat} {most:Int} {ts:List Tk} {q:Nat} (h:blkF F L p most = (0,ts,q)):∃ out,expE most (ts.map ti) [] = (0,out)∧out.length = szs ts:=by
 unfold blkF at h
 split at h
 ·rename_i h1
  exact absurd (Prod.mk.inj h).1 h1
 split at h
 ·rename_i h1
  exact absurd (Prod.mk.inj h).1 h1
 split at h
 ·cases (Prod.mk.inj h).1
 split at h
 ·cases (Prod.mk.inj h).1
 exact blkL_exp _ [] 0 _ ts q h ⟨[],rfl,rfl⟩ rfl
end Go.Proofs.YtaknladkodibaaaGreatDoor
