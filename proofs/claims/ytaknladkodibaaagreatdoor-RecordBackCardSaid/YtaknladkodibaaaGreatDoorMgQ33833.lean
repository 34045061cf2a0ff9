/- Layer 7: the order of items. (Beside it: YtaknladkodibaaaGreatDoorLay, laid by tools/laysort.sh.) -/
import Derived.Test.YtaknladkodibaaaGreatDoorLay
import Derived.Test.YtaknladkodibaaaGreatDoorRows
import Derived.Test.YtaknladkodibaaaGreatDoorMgQ33808
import Derived.Shelf.Small.Wraps
import Derived.WalkKit
import Derived.WalkMore
import Derived.Deep.LoopGhost
import Derived.Deep.Cut
import Derived.Deep.RegionHeld3
import Derived.Test.YtaknladkodibaaaGreatDoorWeiSn
import Derived.Test.YtaknladkodibaaaGreatDoorMgQ338SWeiEl
namespace Go.Proofs.YtaknladkodibaaaGreatDoor
open Go.RowKit Go.Lib Go.Shelf Go.Sort
set_option maxHeartbeats 1000000 in
theorem or2_any (b:Nat) (x y:Int) (w:World) (h0:w.cell? ⟨b,0,none⟩ = some (.int .i64 x)) (h1:w.cell? ⟨b,1,none⟩ = some (.int .i64 y)):Calls Tryz.prog 215 #[.slice (some ⟨b,0,none⟩) 2 2] w fun e w' => e = .returned (.int .i64 (if x = 0 then y else x))∧w = w':=by
 go_enter Tryz.func215,Tryz.ntmps215
 go_wp2
 go_loopg [8] 2 (fun gk i wr => (gk = 2∧i = .int .i64 0∧wr = w) ∨ (gk = 1∧i = .int .i64 1∧wr = w∧x = 0) ∨ (gk = 0∧i = .int .i64 2∧wr = w∧x = 0∧y = 0))
 case atStart => exact .inl ⟨rfl,rfl,rfl⟩
 case round =>
  rcases hrel with ⟨rfl,rfl,rfl⟩ | ⟨rfl,rfl,rfl,hx⟩ | ⟨rfl,rfl,rfl,hx,hy⟩
  ·by_cases hx:x = 0
   ·have hb:(x != 0) = false:=by simp [hx]
    go_wp2
    go_roundg 1
    case measure => omega
    case rel => exact .inr (.inl ⟨rfl,by go_num,rfl,hx⟩)
   ·have hb:(x != 0) = true:=by simp [hx]
    go_wp2
    go_ret
    exact ⟨rfl,rfl⟩
  ·by_cases hy:y = 0
   ·have hb:(y != 0) = false:=by simp [hy]
    go_wp2
    go_roundg 0
    case measure => omega
    case rel => exact .inr (.inr ⟨rfl,by go_num,rfl,hx,hy⟩)
   ·have hb:(y != 0) = true:=by simp [hy]
    go_wp2
    go_ret
    exact ⟨rfl,rfl⟩
  ·go_wp2
   go_ret
   exact ⟨by subst hy;rfl,rfl⟩
def itC (x y:Int × Int):Int:=if compareInt x.1 y.1 = 0 then compareInt x.2 y.2 else compareInt x.1 y.1
set_option maxHeartbeats 1000000 in
theorem itCmp_any (x y:Int × Int) (W:World):Calls Tryz.prog 214 #[.agg #[.int .i64 x.1,.int .i64 x.2,.pointer none,.pointer none],.agg #[.int .i64 y.1,.int .i64 y.2,.pointer none,.pointer none]] W fun e w' => e = .returned (.int .i64 (itC x y))∧∃ q os',w' = grow (W.drewN q) os':=by
 have hcon:=fun x y W' => Any.cmp_Compare_int Tryz.lays122 x y W'
 change ∀ x y W',Calls Tryz.prog 216 _ _ _ at hcon
 obtain ⟨r1,hr1⟩:∃ r,compareInt x.1 y.1 = r:=⟨_,rfl⟩
 obtain ⟨r2,hr2⟩:∃ r,compareInt x.2 y.2 = r:=⟨_,rfl⟩
 have H1:=Lib.hid (fun W' => hcon x.1 y.1 W')
 have H2:=Lib.hid (fun W' => hcon x.2 y.2 W')
 clear hcon
 go_enter Tryz.func214,Tryz.ntmps214
 go_upto_region 1 with fail
 obtain ⟨p,hp⟩:∃ p,W.heap.size = p:=⟨_,rfl⟩
 obtain ⟨w2,hw2⟩:∃ w2,(W.alloc (.cells #[.int .i64 x.1,.int .i64 x.2,.pointer none,.pointer none] 269)).alloc (.cells #[.int .i64 y.1,.int .i64 y.2,.pointer none,.pointer none] 269) = w2:=⟨_,rfl⟩
 have h1:w2.heap[p]? = some (.cells #[.int .i64 x.1,.int .i64 x.2,.pointer none,.pointer none] 269 (0,0)):=by
  rw [← hw2,← hp]
  exact (Below.heap_alloc _ _ _ (by simp)).trans (heap_alloc_new W _)
 have h2:w2.heap[p + 1]? = some (.cells #[.int .i64 y.1,.int .i64 y.2,.pointer none,.pointer none] 269 (0,0)):=by
  have h:=heap_alloc_new (W.alloc (.cells #[.int .i64 x.1,.int .i64 x.2,.pointer none,.pointer none] 269)) (.cells #[.int .i64 y.1,.int .i64 y.2,.pointer none,.pointer none] 269)
  rw [World.size_alloc,hp] at h
  rw [← hw2]
  exact h
 have a0:=cell_of_row w2 p 0 _ _ _ h1
 have a1:=cell_of_row w2 p 1 _ _ _ h1
 have b0:=cell_of_row w2 (p + 1) 0 _ _ _ h2
 have b1:=cell_of_row w2 (p + 1) 1 _ _ _ h2
 have HG:Hid (∃ os,w2 = grow W os):=by
  show ∃ os,_
  exact ⟨_,by rw [← hw2,alloc_eq_grow,alloc_eq_grow,grow_grow]⟩
 rw [hw2,hp]
 clear hw2 h1 h2 hp
 have HR:Hid (itC x y = if r1 = 0 then r2 else r1):=by show _ = _;rw [itC,hr1,hr2]
 obtain ⟨r,hr⟩:∃ r,(if r1 = 0 then r2 else r1) = r:=⟨_,rfl⟩
 have H3:=Lib.hid (fun (b:Nat) (V:World) (h0:V.cell? ⟨b,0,none⟩ = some (.int .i64 r1)) (h1:V.cell? ⟨b,1,none⟩ = some (.int .i64 r2)) => or2_any b r1 r2 V h0 h1)
 rw [hr] at H3 HR
 clear hr
 rw [hr1] at H1
 rw [hr2] at H2
 clear hr1 hr2
 go_region_held3 (fun V => V.cell? ⟨p,0,none⟩ = some (.int .i64 x.1)∧V.cell? ⟨p,1,none⟩ = some (.int .i64 x.2)∧V.cell? ⟨p + 1,0,none⟩ = some (.int .i64 y.1)∧V.cell? ⟨p + 1,1,none⟩ = some (.int .i64 y.2)) (first | exact ⟨a0,a1,b0,b1⟩ | go_keep)
  ((first
   | (go_at_call 216;refine (H1.out _).mono ?_;clear H1;rintro e w3 ⟨rfl,rfl⟩)
   | (go_at_call 216;refine (H2.out _).mono ?_;clear H2;rintro e w3 ⟨rfl,rfl⟩)
   | (go_at_call 215;refine (H3.out _ _ (by simp [go_sem]) (by simp [go_sem])).mono ?_;rintro e w4 ⟨rfl,rfl⟩)))
 go_wp2
 go_ret
 obtain ⟨os,hos⟩:=HG.out
 exact ⟨by rw [HR.out];rfl,1,_,by rw [hos,alloc_eq_grow,grow_grow];rfl⟩
theorem itLt (x y:Int × Int):ltOf itC x y = decide (x.1 < y.1 ∨ x.1 = y.1∧x.2 < y.2):=by
 unfold ltOf itC compareInt
 by_cases h1:x.1 < y.1
 ·simp [h1]
 ·by_cases h2:y.1 < x.1
  ·simp [h1,h2]
   omega
  ·have h3:x.1 = y.1:=by omega
   by_cases h4:x.2 < y.2
   ·simp [h3,h4]
   ·by_cases h5:y.2 < x.2 <;> simp [h3,h4,h5]
theorem elAgg (w:World):(isAgg 269).run Tryz.prog w = .ok true w:=by kernel_rfl
theorem elSize (w:World):(Go.sizeOf 269).run Tryz.prog w = .ok 4 w:=by kernel_rfl
def itEn (x:Nat × Nat):List Value:=elC x.1 x.2 none none
def itCn (x y:Nat × Nat):Int:=itC ((x.1:Int),(x.2:Int)) ((y.1:Int),(y.2:Int))
theorem itLtN (x y:Nat × Nat):ltOf itCn x y = decide (x.1 < y.1 ∨ x.1 = y.1∧x.2 < y.2):=by
 have h:=itLt ((x.1:Int),(x.2:Int)) ((y.1:Int),(y.2:Int))
 have e:ltOf itCn x y = ltOf itC ((x.1:Int),(x.2:Int)) ((y.1:Int),(y.2:Int)):=rfl
 rw [e,h,decide_eq_decide]
 dsimp only
 omega
theorem itSwoN:SWO (ltOf itCn) where
 irrefl x:=by rw [itLtN];simp
 trans x y z h1 h2:=by rw [itLtN] at *;simp at *;omega
 ntrans x y z h1 h2:=by rw [itLtN] at *;simp at *;omega
theorem itTotN (x y:Nat × Nat) (h1:ltOf itCn x y = false) (h2:ltOf itCn y x = false):x = y:=by
 rw [itLtN] at h1 h2
 simp at h1 h2
 exact Prod.ext (by omega) (by omega)
theorem itLays (blk off size:Nat) (w:World):CmpLays Tryz.prog 214 #[] itEn 4 itCn blk off size w :=
 fun _ _ _ _ x y => itCmp_any ((x.1:Int),(x.2:Int)) ((y.1:Int),(y.2:Int)) _
theorem itSort_any (blk off cap:Nat) (d:Array (Nat × Nat)) (w:World) (hH:HoldsK itEn 4 w blk off d) (hblk:blk < w.heap.size) (hsz:d.size < 4611686018427387904) :
  Calls Tryz.prog 213 #[.slice (some ⟨blk,off,none⟩) d.size cap,.func (.func 214) #[] #[]] w fun e w' => e = .returned (.tuple #[])∧∃ d' n os,PermIn 0 d.size d d'∧SortedIn (ltOf itCn) 0 d.size d'∧w' = sortWorldK itEn 4 w blk off n d' os:=by
 have eg:∀ args w,(callFunc 214 args).run Tryz.prog w = .ok (.enter 214 args) w:=enters_of Tryz.func214 (by kernel_rfl) rfl
 exact AnyQ.slices_SortFunc Tryz.sortEl 4 elAgg elSize itEn (fun _ => rfl) (fun x v hv => by simp [itEn,elC] at hv;rcases hv with rfl | rfl | rfl | rfl <;> rfl) itCn itSwoN 214 #[] blk off cap d w eg (itLays blk off d.size w) hH hblk hsz
def sortW (l:List (Nat × Nat)):List (Nat × Nat):=l.mergeSort fun x y => !ltOf itCn y x
theorem sortW_perm (l:List (Nat × Nat)):(sortW l).Perm l:=List.mergeSort_perm _ _
theorem sortW_le (l:List (Nat × Nat)):(sortW l).Pairwise fun x y => x.1 < y.1 ∨ x.1 = y.1∧x.2 ≤ y.2:=by
 have h:=List.pairwise_mergeSort (le:=fun x y => !ltOf itCn y x) (fun a b c h1 h2 => by simp only [itLtN,Bool.not_eq_true',decide_eq_false_iff_not] at *;omega) (fun a b => by simp only [itLtN,Bool.or_eq_true,Bool.not_eq_true',decide_eq_false_iff_not];omega) l
 refine h.imp fun {a b} hab => ?_
 simp only [itLtN,Bool.not_eq_true',decide_eq_false_iff_not] at hab
 omega
end Go.Proofs.YtaknladkodibaaaGreatDoor
