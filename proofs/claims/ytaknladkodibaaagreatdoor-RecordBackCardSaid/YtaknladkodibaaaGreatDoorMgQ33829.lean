/- Layer 12, the document's answer: the number of a class and bits. -/
import Derived.Test.YtaknladkodibaaaGreatDoorMgQ33827
import Derived.BigQuiet
namespace Go.Proofs.YtaknladkodibaaaGreatDoor
open Go.RowKit SymP
attribute [local go_sem ↓] Go.wp_at_zero Go.wp_at_succ
def rightT (y l d:Int):Bool:=if l = 0 then decide (d = 0) else decide (3 ≤ l∧l ≤ 258∧1 ≤ d∧d ≤ 32768∧y = 0)
theorem ret_bool12 {a b:Bool} (h:a = b):Ending.returned (.bool a) = .returned (.bool b):=by rw [h]
theorem right_any (y l d : Int) (w : World) :
    Calls Tryz.prog 153 #[.agg #[.int .u8 y, .int .i64 l, .int .i64 d]] w fun e w' => e = .returned (.bool (rightT y l d)) ∧ w.alloc (.cells #[.int .u8 y, .int .i64 l, .int .i64 d] 164) = w' := by
  by_cases h : l = 0
  · subst h
    go_enter Tryz.func153, Tryz.ntmps153
    go_wp2
    go_ret
    refine ⟨ret_bool12 ?_, rfl⟩
    rw [Bool.eq_iff_iff]
    unfold rightT
    simp
  · go_enter Tryz.func153, Tryz.ntmps153
    go_wp2
    all_goals
      (go_ret
       refine ⟨ret_bool12 ?_, rfl⟩
       (try simp only [beq_eq_false_iff_ne] at *)
       rw [Bool.eq_iff_iff]
       unfold rightT
       split <;> simp <;> omega)
def agR (n1 b1 x1 n2 b2 x2:Int) (m:Bool):Value:=.agg #[.int .i64 n1,.int .i64 b1,.int .u32 x1,.int .i64 n2,.int .i64 b2,.int .u32 x2,.bool m]
theorem split_no (y l d:Int) (w:World) (h:rightT y l d = false) :
  Calls Tryz.prog 109 #[.agg #[.int .u8 y,.int .i64 l,.int .i64 d]] w fun e w' => e = .returned (.tuple #[agR 0 0 0 0 0 0 false,.bool false])∧Below w.heap.size w w':=by
 have HR:=Lib.hid (fun W => right_any y l d W)
 rw [h] at HR
 clear h
 go_enter Tryz.func109,Tryz.ntmps109
 go_wp2_with (go_at_call 153;refine (HR.out _).mono ?_;rintro e w4 ⟨rfl,rfl⟩)
 refine bodyPost_ret (v:=.tuple #[agR 0 0 0 0 0 0 false,.bool false]) ?_ rfl ⟨rfl,?_⟩
 ·rw [results_cell_tmp rfl]
  go_simp
  rfl
 ·repeat (first | exact Below.refl _ _ | refine Below.drew ?_ | refine Below.alloc ?_ (by simp <;> omega) _)
theorem split_byte (y:Nat) (w:World) (hy:y < 256) :
  Calls Tryz.prog 109 #[.agg #[.int .u8 y,.int .i64 0,.int .i64 0]] w fun e w' => e = .returned (.tuple #[agR y 0 0 0 0 0 false,.bool true])∧Below w.heap.size w w':=by
 have HR:=Lib.hid (fun W => right_any y 0 0 W)
 rw [show rightT y 0 0 = true from rfl] at HR
 have hw:IntKind.i64.wrap (y:Int) = y:=IntWalk.i64_in _ (by omega)
 go_enter Tryz.func109,Tryz.ntmps109
 go_wp2_with (go_at_call 153;refine (HR.out _).mono ?_;rintro e w4 ⟨rfl,rfl⟩)
 refine bodyPost_ret (v:=.tuple #[agR y 0 0 0 0 0 false,.bool true]) ?_ rfl ⟨rfl,?_⟩
 ·rw [results_cell_tmp rfl]
  go_simp
  rfl
 ·repeat (first | exact Below.refl _ _ | refine Below.drew ?_ | refine Below.alloc ?_ (by simp <;> omega) _)
set_option maxHeartbeats 1000000 in
theorem split_match (l d : Nat) (w : World) (l0 : l < 256) (d0 : d < 32768) :
    Calls Tryz.prog 109 #[.agg #[.int .u8 0, .int .i64 (l + 3 : Nat), .int .i64 (d + 1 : Nat)]] w fun e w' => e = .returned (.tuple #[agR (classC l + 257 : Nat) (bitsC (classC l) : Nat) (l % 2 ^ bitsC (classC l) : Nat) (classC d : Nat) (bitsC (classC d) : Nat) (d % 2 ^ bitsC (classC d) : Nat) true, .bool true]) ∧ Below w.heap.size w w' := by
  have HR := Lib.hid (fun W => right_any 0 ((l + 3 : Nat) : Int) ((d + 1 : Nat) : Int) W)
  rw [show rightT 0 ((l + 3 : Nat) : Int) ((d + 1 : Nat) : Int) = true by unfold rightT; rw [if_neg (by omega)]; simp; omega] at HR
  have HL := Lib.hid (fun W => of_inx l W (by omega))
  have HD := Lib.hid (fun W => of_inx d W d0)
  have hc := (class_is l (by omega)).1
  generalize classC l = c1 at *
  generalize classC d = c2 at *
  generalize bitsC c1 = b1 at *
  generalize bitsC c2 = b2 at *
  generalize l % 2 ^ b1 = x1 at *
  generalize d % 2 ^ b2 = x2 at *
  obtain ⟨L, hL⟩ : ∃ L, l + 3 = L := ⟨_, rfl⟩
  obtain ⟨D, hD⟩ : ∃ D, d + 1 = D := ⟨_, rfl⟩
  rw [hL, hD] at HR ⊢
  have hw : IntKind.i64.wrap ((L : Int) - 3) = l := by rw [IntWalk.i64_in _ (by omega)]; omega
  have hv : IntKind.i64.wrap ((D : Int) - 1) = d := by rw [IntWalk.i64_in _ (by omega)]; omega
  have hu : IntKind.i64.wrap ((c1 : Int) + 257) = ((c1 + 257 : Nat) : Int) := by rw [IntWalk.i64_in _ (by omega)]; omega
  have hL0 : ((L : Int) == 0) = false := by simp; omega
  clear hL hD
  unfold agC at HL HD
  go_enter Tryz.func109, Tryz.ntmps109
  go_wp2_with (first
    | (go_at_call 153; refine (HR.out _).mono ?_; rintro e w4 ⟨rfl, rfl⟩)
    | (go_at_call 154; refine (HL.out _).mono ?_; clear HL; rintro e w4 ⟨rfl, rfl | rfl⟩)
    | (go_at_call 154; refine (HD.out _).mono ?_; clear HD; rintro e w4 ⟨rfl, rfl | rfl⟩))
  all_goals
    (refine bodyPost_ret (v := .tuple #[agR ((c1 + 257 : Nat) : Int) b1 x1 c2 b2 x2 true, .bool true]) ?_ rfl ⟨rfl, ?_⟩
     · rw [results_cell_tmp rfl]
       go_simp
       rfl
     · repeat (first | exact Below.refl _ _ | refine Below.drew ?_ | refine Below.alloc ?_ (by simp <;> omega) _))
theorem block_after {w w':World} {g:Nat} {cs:Array Value} {t:TypeId} (h:Below w.heap.size w w') (hg:w.heap[g]? = some (.cells cs t (0,0))):w'.heap[g]? = some (.cells cs t (0,0)) :=
 (h.block _ (Array.getElem?_eq_some_iff.1 hg).1).trans hg
theorem row7_cells {w:World} {g:Nat} {t:TypeId} {a b c d e f m:Value} (h:w.heap[g]? = some (.cells #[a,b,c,d,e,f,m] t (0,0))) :
  w.cell? ⟨g,0,none⟩ = some a∧w.cell? ⟨g,1,none⟩ = some b∧w.cell? ⟨g,2,none⟩ = some c∧w.cell? ⟨g,3,none⟩ = some d∧w.cell? ⟨g,4,none⟩ = some e∧w.cell? ⟨g,5,none⟩ = some f∧w.cell? ⟨g,6,none⟩ = some m :=
 ⟨cell_of_row w g 0 _ _ _ h,cell_of_row w g 1 _ _ _ h,cell_of_row w g 2 _ _ _ h,cell_of_row w g 3 _ _ _ h,cell_of_row w g 4 _ _ _ h,cell_of_row w g 5 _ _ _ h,cell_of_row w g 6 _ _ _ h⟩
theorem row3_free {w:World} {g:Nat} {t:TypeId} {cs:Array Value} (h:w.heap[g]? = some (.cells cs t (0,0))) :
  w.frozen? ⟨g,0,none⟩ = false∧w.frozen? ⟨g,1,none⟩ = false∧w.frozen? ⟨g,2,none⟩ = false :=
 ⟨frozen_of_row w g 0 _ _ h,frozen_of_row w g 1 _ _ h,frozen_of_row w g 2 _ _ h⟩
theorem three_after {w w':World} {A B C:Obj} (h:Below (((w.alloc A).alloc B).alloc C).heap.size (((w.alloc A).alloc B).alloc C) w') :
  w'.heap[w.heap.size]? = some A∧w'.heap[w.heap.size + 1]? = some B∧w'.heap[w.heap.size + 1 + 1]? = some C∧Below w.heap.size w w'∧w.heap.size + 3 ≤ w'.heap.size:=by
 have e1:(w.alloc A).heap.size = w.heap.size + 1:=by simp
 have e2:((w.alloc A).alloc B).heap.size = w.heap.size + 1 + 1:=by simp
 have e3:(((w.alloc A).alloc B).alloc C).heap.size = w.heap.size + 1 + 1 + 1:=by simp
 have hs:=h.size
 rw [e3] at h hs
 refine ⟨?_,?_,?_,?_,hs⟩
 ·rw [h.block _ (by omega),Below.heap_alloc _ _ _ (by omega),Below.heap_alloc _ _ _ (by omega)]
  exact heap_alloc_last w A
 ·rw [h.block _ (by omega),Below.heap_alloc _ _ _ (by omega),← e1]
  exact heap_alloc_last (w.alloc A) B
 ·rw [h.block _ (by omega),← e2]
  exact heap_alloc_last ((w.alloc A).alloc B) C
 ·exact ((((Below.refl _ w).alloc (Nat.le_refl _) A).alloc (by omega) B).alloc (by omega) C).trans (h.mono (by omega))
def vN (n b:Int) (x:Nat):Nat:=(valC n b x).getD 0
theorem value_all (n b:Int) (x:Nat) (w:World) (hx:x < 4294967296) :
  Calls Tryz.prog 247 #[agC n b x] w fun e w' => e = .returned (.tuple #[.int .i64 (vN n b x:Nat),.bool (valC n b x).isSome])∧Below w.heap.size w w':=by
 cases h:valC n b x with
 | none =>
  unfold vN
  rw [h]
  exact value_none n b x w hx h
 | some v =>
  unfold vN
  rw [h]
  unfold valC at h
  split at h
  ·rename_i hc
   obtain ⟨h0,h1,h2,h3⟩:=hc
   obtain ⟨m,rfl⟩:=Int.eq_ofNat_of_zero_le h0
   rw [Int.toNat_natCast] at h2 h3 h
   cases h
   rw [h2]
   exact value_some m x w (by omega) h3
  ·cases h
theorem vN_lt (n b:Int) (x:Nat):vN n b x < 32768:=by
 unfold vN valC
 split
 ·rename_i hc
  have:=baseC_top n.toNat (by omega)
  simp only [Option.getD_some]
  omega
 ·simp
theorem token_byte (n1 b1:Int) (x1:Nat) (n2 b2:Int) (x2:Nat) (w:World) :
  Calls Tryz.prog 234 #[agR n1 b1 x1 n2 b2 x2 false] w fun e w' => e = .returned (.agg #[.int .u8 (IntKind.u8.wrap n1),.int .i64 0,.int .i64 0])∧Below w.heap.size w w':=by
 unfold agR
 obtain ⟨z,hz⟩:∃ z,IntKind.u8.wrap n1 = z:=⟨_,rfl⟩
 rw [hz]
 go_enter Tryz.func234,Tryz.ntmps234
 go_wp2
 refine bodyPost_ret (v:=.agg #[.int .u8 z,.int .i64 0,.int .i64 0]) ?_ rfl ⟨rfl,?_⟩
 ·rw [results_cell1 rfl]
  go_simp
  try rfl
 ·repeat (first | exact Below.refl _ _ | refine Below.drew ?_ | refine Below.alloc ?_ (by simp <;> omega) _)
set_option maxHeartbeats 1000000 in
theorem token_match (n1 b1:Int) (x1:Nat) (n2 b2:Int) (x2:Nat) (w:World) (h1:x1 < 4294967296) (h2:x2 < 4294967296) :
  Calls Tryz.prog 234 #[agR n1 b1 x1 n2 b2 x2 true] w fun e w' => e = .returned (.agg #[.int .u8 0,.int .i64 (vN (wrap64 (n1 - 257)) b1 x1 + 3:Nat),.int .i64 (vN n2 b2 x2 + 1:Nat)])∧Below w.heap.size w w':=by
 have HV1:=Lib.hid (fun W => value_all (wrap64 (n1 - 257)) b1 x1 W h1)
 have HV2:=Lib.hid (fun W => value_all n2 b2 x2 W h2)
 have l1:=vN_lt (wrap64 (n1 - 257)) b1 x1
 have l2:=vN_lt n2 b2 x2
 unfold agR
 generalize vN (wrap64 (n1 - 257)) b1 x1 = p at *
 generalize vN n2 b2 x2 = q at *
 generalize (valC (wrap64 (n1 - 257)) b1 x1).isSome = o1 at *
 generalize (valC n2 b2 x2).isSome = o2 at *
 unfold agC at HV1 HV2
 have hp:IntKind.i64.wrap ((p:Int) + 3) = ((p + 3:Nat):Int):=by rw [IntWalk.i64_in _ (by omega)];omega
 have hq:IntKind.i64.wrap ((q:Int) + 1) = ((q + 1:Nat):Int):=by rw [IntWalk.i64_in _ (by omega)];omega
 have HA:=Lib.hid (heap_alloc_last w (.cells #[.int .i64 n1,.int .i64 b1,.int .u32 x1,.int .i64 n2,.int .i64 b2,.int .u32 x2,.bool true] 168))
 have hs:∀ o,(w.alloc o).heap.size = w.heap.size + 1:=fun o => by simp
 go_enter Tryz.func234,Tryz.ntmps234
 go_wp2_with (first
  | (go_at_call 247;refine (HV1.out _).mono ?_;clear HV1;rintro e w4 ⟨rfl,hb4⟩;obtain ⟨r0,r1,r2,hbl,hsz⟩:=three_after hb4;have R1:=Lib.hid r1;have HSZ:=Lib.hid hsz;obtain ⟨_,_,_,q3,q4,q5,_⟩:=row7_cells r0;have HBL:=Lib.hid hbl;clear r0 r1 r2 hb4 hbl hsz)
  | (go_at_call 247;refine (HV2.out _).mono ?_;clear HV2;rintro e w5 ⟨rfl,hb5⟩;obtain ⟨k0,k1,k2⟩:=row3_cells (block_after hb5 R1.out);obtain ⟨f0,f1,f2⟩:=row3_free (block_after hb5 R1.out);have HBM:=Lib.hid (HBL.out.trans (hb5.mono (by have:=HSZ.out;omega)));clear hb5))
 refine bodyPost_ret (v:=.agg #[.int .u8 0,.int .i64 (p + 3:Nat),.int .i64 (q + 1:Nat)]) ?_ rfl ⟨rfl,?_⟩
 ·rw [results_cell1 rfl]
  go_simp
  try rfl
 ·exact ((HBM.out.setCell (p:=⟨w.heap.size + 1,0,none⟩) (Nat.le_succ _) _).setCell (p:=⟨w.heap.size + 1,1,none⟩) (Nat.le_succ _) _).setCell (p:=⟨w.heap.size + 1,2,none⟩) (Nat.le_succ _) _
theorem two_after {w w':World} {A B:Obj} (h:Below ((w.alloc A).alloc B).heap.size ((w.alloc A).alloc B) w') :
  w'.heap[w.heap.size]? = some A∧w'.heap[w.heap.size + 1]? = some B∧Below w.heap.size w w'∧w.heap.size + 2 ≤ w'.heap.size:=by
 have e1:(w.alloc A).heap.size = w.heap.size + 1:=by simp
 have e2:((w.alloc A).alloc B).heap.size = w.heap.size + 1 + 1:=by simp
 have hs:=h.size
 rw [e2] at h hs
 refine ⟨?_,?_,?_,hs⟩
 ·rw [h.block _ (by omega),Below.heap_alloc _ _ _ (by omega)]
  exact heap_alloc_last w A
 ·rw [h.block _ (by omega),← e1]
  exact heap_alloc_last (w.alloc A) B
 ·exact (((Below.refl _ w).alloc (Nat.le_refl _) A).alloc (by omega) B).trans (h.mono (by omega))
theorem row7_both {w:World} {g:Nat} {t:TypeId} {a b c d e f m:Value} (h:w.heap[g]? = some (.cells #[a,b,c,d,e,f,m] t (0,0))) :
  (∀ o,(w.alloc o).cell? ⟨g,0,none⟩ = some a)∧(∀ o,(w.alloc o).cell? ⟨g,1,none⟩ = some b)∧(∀ o,(w.alloc o).cell? ⟨g,2,none⟩ = some c)∧(∀ o,(w.alloc o).cell? ⟨g,3,none⟩ = some d)∧(∀ o,(w.alloc o).cell? ⟨g,4,none⟩ = some e)∧(∀ o,(w.alloc o).cell? ⟨g,5,none⟩ = some f)∧(∀ o,(w.alloc o).cell? ⟨g,6,none⟩ = some m):=by
 refine ⟨fun o => ?_,fun o => ?_,fun o => ?_,fun o => ?_,fun o => ?_,fun o => ?_,fun o => ?_⟩ <;> obtain ⟨h0,h1,h2,h3,h4,h5,h6⟩:=row7_cells (row3_alloc h o) <;> assumption
theorem row3_frees {w:World} {g:Nat} {t:TypeId} {cs:Array Value} (h:w.heap[g]? = some (.cells cs t (0,0))) :
  (∀ o,(w.alloc o).frozen? ⟨g,0,none⟩ = false)∧(∀ o,(w.alloc o).frozen? ⟨g,1,none⟩ = false)∧(∀ o,(w.alloc o).frozen? ⟨g,2,none⟩ = false) :=
 ⟨fun o => (row3_free (row3_alloc h o)).1,fun o => (row3_free (row3_alloc h o)).2.1,fun o => (row3_free (row3_alloc h o)).2.2⟩
theorem one_after {w w':World} {A:Obj} (h:Below (w.alloc A).heap.size (w.alloc A) w'):w'.heap[w.heap.size]? = some A∧w.heap.size + 1 ≤ w'.heap.size:=by
 have e1:(w.alloc A).heap.size = w.heap.size + 1:=by simp
 have hs:=h.size
 rw [e1] at h hs
 exact ⟨by rw [h.block _ (by omega)];exact heap_alloc_last w A,hs⟩
theorem Below.setCells3 {B g:Nat} {w w':World} (h:Below B w w') (hg:B ≤ g) (a b c:Value):Below B w (((w'.setCell ⟨g,0,none⟩ a).setCell ⟨g,1,none⟩ b).setCell ⟨g,2,none⟩ c) :=
 ((h.setCell (p:=⟨g,0,none⟩) hg _).setCell (p:=⟨g,1,none⟩) hg _).setCell (p:=⟨g,2,none⟩) hg _
section
variable (n1 b1:Int) (x1:Nat) (n2 b2:Int) (x2:Nat) (m:Bool) (ty tl td:Int)
set_option maxHeartbeats 1000000 in
theorem join_no (w:World)
  (HT:Hid (∀ W,Calls Tryz.prog 234 #[agR n1 b1 x1 n2 b2 x2 m] W fun e w' => e = .returned (.agg #[.int .u8 ty,.int .i64 tl,.int .i64 td])∧Below W.heap.size W w'))
  (HS:Hid (∀ W,Calls Tryz.prog 109 #[.agg #[.int .u8 ty,.int .i64 tl,.int .i64 td]] W fun e w' => e = .returned (.tuple #[agR 0 0 0 0 0 0 false,.bool false])∧Below W.heap.size W w')) :
  Calls Tryz.prog 206 #[agR n1 b1 x1 n2 b2 x2 m] w fun e w' => e = .returned (.tuple #[.agg #[.int .u8 0,.int .i64 0,.int .i64 0],.bool false])∧Below w.heap.size w w':=by
 unfold agR at *
 go_enter Tryz.func206,Tryz.ntmps206
 go_wp2_with (first
  | (go_at_call 234;refine (HT.out _).mono ?_;rintro e w4 ⟨rfl,hb4⟩;obtain ⟨r0,r1,hbl,hsz⟩:=two_after hb4;have R0:=Lib.hid r0;have R1:=Lib.hid r1;have HSZ:=Lib.hid hsz;have HBL:=Lib.hid hbl;clear r0 r1 hb4 hbl hsz)
  | (go_at_call 109;refine (HS.out _).mono ?_;rintro e w5 ⟨rfl,hb5⟩;have hb6:=below_call hb5;obtain ⟨k0,k1,k2⟩:=row3_both (block_after hb6 R1.out);obtain ⟨f0,f1,f2⟩:=row3_frees (block_after hb6 R1.out);obtain ⟨r2,hs2⟩:=one_after hb5;obtain ⟨t0,t1,t2⟩:=row3_both r2;obtain ⟨a0,a1,a2,a3,a4,a5,a6⟩:=row7_both (block_after hb6 R0.out);have HS5:=Lib.hid (show w.heap.size ≤ w5.heap.size by have:=HSZ.out;omega);have HBM:=Lib.hid (HBL.out.trans (hb6.mono (by have:=HSZ.out;omega)));clear hb5 hb6 r2 hs2))
 refine bodyPost_ret (v:=.tuple #[.agg #[.int .u8 0,.int .i64 0,.int .i64 0],.bool false]) ?_ rfl ⟨rfl,?_⟩
 ·rw [results_cell_tmp rfl]
  go_simp
  try rfl
 ·exact Below.setCells3 (HBM.out.alloc HS5.out _) (Nat.le_succ _) _ _ _
set_option maxHeartbeats 1000000 in
theorem join_yes (w:World)
  (HT:Hid (∀ W,Calls Tryz.prog 234 #[agR n1 b1 x1 n2 b2 x2 m] W fun e w' => e = .returned (.agg #[.int .u8 ty,.int .i64 tl,.int .i64 td])∧Below W.heap.size W w'))
  (HS:Hid (∀ W,Calls Tryz.prog 109 #[.agg #[.int .u8 ty,.int .i64 tl,.int .i64 td]] W fun e w' => e = .returned (.tuple #[agR n1 b1 x1 n2 b2 x2 m,.bool true])∧Below W.heap.size W w')) :
  Calls Tryz.prog 206 #[agR n1 b1 x1 n2 b2 x2 m] w fun e w' => e = .returned (.tuple #[.agg #[.int .u8 ty,.int .i64 tl,.int .i64 td],.bool true])∧Below w.heap.size w w':=by
 unfold agR at *
 go_enter Tryz.func206,Tryz.ntmps206
 go_wp2_with (first
  | (go_at_call 234;refine (HT.out _).mono ?_;rintro e w4 ⟨rfl,hb4⟩;obtain ⟨r0,r1,hbl,hsz⟩:=two_after hb4;have R0:=Lib.hid r0;have R1:=Lib.hid r1;have HSZ:=Lib.hid hsz;have HBL:=Lib.hid hbl;clear r0 r1 hb4 hbl hsz)
  | (go_at_call 109;refine (HS.out _).mono ?_;rintro e w5 ⟨rfl,hb5⟩;have hb6:=below_call hb5;obtain ⟨k0,k1,k2⟩:=row3_both (block_after hb6 R1.out);obtain ⟨f0,f1,f2⟩:=row3_frees (block_after hb6 R1.out);obtain ⟨r2,hs2⟩:=one_after hb5;obtain ⟨t0,t1,t2⟩:=row3_both r2;obtain ⟨a0,a1,a2,a3,a4,a5,a6⟩:=row7_both (block_after hb6 R0.out);have HS5:=Lib.hid (show w.heap.size ≤ w5.heap.size by have:=HSZ.out;omega);have HBM:=Lib.hid (HBL.out.trans (hb6.mono (by have:=HSZ.out;omega)));clear hb5 hb6 r2 hs2))
 refine bodyPost_ret (v:=.tuple #[.agg #[.int .u8 ty,.int .i64 tl,.int .i64 td],.bool true]) ?_ rfl ⟨rfl,?_⟩
 ·rw [results_cell_tmp rfl]
  go_simp
  try rfl
 ·exact Below.setCells3 (HBM.out.alloc HS5.out _) (Nat.le_succ _) _ _ _
set_option maxHeartbeats 1000000 in
theorem join_ne (w : World) (p1 c1 y1 p2 c2 y2 : Int) (mm : Bool) (hne : ¬ (p1 = n1 ∧ c1 = b1 ∧ y1 = (x1 : Int) ∧ p2 = n2 ∧ c2 = b2 ∧ y2 = (x2 : Int) ∧ mm = m))
    (HT : Hid (∀ W, Calls Tryz.prog 234 #[agR n1 b1 x1 n2 b2 x2 m] W fun e w' => e = .returned (.agg #[.int .u8 ty, .int .i64 tl, .int .i64 td]) ∧ Below W.heap.size W w'))
    (HS : Hid (∀ W, Calls Tryz.prog 109 #[.agg #[.int .u8 ty, .int .i64 tl, .int .i64 td]] W fun e w' => e = .returned (.tuple #[agR p1 c1 y1 p2 c2 y2 mm, .bool true]) ∧ Below W.heap.size W w')) :
    Calls Tryz.prog 206 #[agR n1 b1 x1 n2 b2 x2 m] w fun e w' => e = .returned (.tuple #[.agg #[.int .u8 0, .int .i64 0, .int .i64 0], .bool false]) ∧ Below w.heap.size w w' := by
  unfold agR at *
  go_enter Tryz.func206, Tryz.ntmps206
  go_wp2_with (first
    | (go_at_call 234; refine (HT.out _).mono ?_; rintro e w4 ⟨rfl, hb4⟩; obtain ⟨r0, r1, hbl, hsz⟩ := two_after hb4; have R0 := Lib.hid r0; have R1 := Lib.hid r1; have HSZ := Lib.hid hsz; have HBL := Lib.hid hbl; clear r0 r1 hb4 hbl hsz)
    | (go_at_call 109; refine (HS.out _).mono ?_; rintro e w5 ⟨rfl, hb5⟩; have hb6 := below_call hb5; obtain ⟨k0, k1, k2⟩ := row3_both (block_after hb6 R1.out); obtain ⟨f0, f1, f2⟩ := row3_frees (block_after hb6 R1.out); obtain ⟨r2, hs2⟩ := one_after hb5; obtain ⟨t0, t1, t2⟩ := row3_both r2; obtain ⟨a0, a1, a2, a3, a4, a5, a6⟩ := row7_both (block_after hb6 R0.out); have HS5 := Lib.hid (show w.heap.size ≤ w5.heap.size by have := HSZ.out; omega); have HBM := Lib.hid (HBL.out.trans (hb6.mono (by have := HSZ.out; omega))); clear hb5 hb6 r2 hs2))
  all_goals first
    | (exfalso; simp_all; done)
    | (refine bodyPost_ret (v := .tuple #[.agg #[.int .u8 0, .int .i64 0, .int .i64 0], .bool false]) ?_ rfl ⟨rfl, ?_⟩
       · rw [results_cell_tmp rfl]
         go_simp
         try rfl
       · exact Below.setCells3 (HBM.out.alloc HS5.out _) (Nat.le_succ _) _ _ _)
end
def agT (y l d:Int):Value:=.agg #[.int .u8 y,.int .i64 l,.int .i64 d]
section
variable (n1 b1:Int) (x1:Nat) (n2 b2:Int) (x2:Nat)
def joinR (m:Bool):Option (Nat × Nat × Nat) :=
 if m = false then (if 0 ≤ n1∧n1 ≤ 255∧b1 = 0∧x1 = 0∧n2 = 0∧b2 = 0∧x2 = 0 then some (n1.toNat,0,0) else none)
 else if 257 ≤ n1∧n1 ≤ 272∧(valC (n1 - 257) b1 x1).isSome = true∧(valC n2 b2 x2).isSome = true then some (0,vN (n1 - 257) b1 x1 + 3,vN n2 b2 x2 + 1) else none
def joinV:Option (Nat × Nat × Nat)→Value
 | some (y,l,d) => .tuple #[agT y l d,.bool true]
 | none => .tuple #[agT 0 0 0,.bool false]
theorem valC_low {n b:Int} {x:Nat} (h:n ≤ 15):vN n b x < 256:=by
 unfold vN valC
 split
 ·rename_i hc
  obtain ⟨h0,h1,h2,h3⟩:=hc
  obtain ⟨m,rfl⟩:=Int.eq_ofNat_of_zero_le h0
  rw [Int.toNat_natCast] at h3 ⊢
  simp only [Option.getD_some]
  have h4:=baseC_mono (m:=m + 1) (n:=16) (by omega) (by omega)
  rw [baseC_next m (by omega)] at h4
  have h5:baseC 16 = 256:=by decide
  omega
 ·simp
end
end Go.Proofs.YtaknladkodibaaaGreatDoor
namespace Go.Proofs.YtaknladkodibaaaGreatDoor
open Go.RowKit SymP
section
variable (n1 b1:Int) (x1:Nat) (n2 b2:Int) (x2:Nat)
theorem split_is (l d:Nat) (l0:l < 256) (d0:d < 32768) (W:World) :
  Calls Tryz.prog 109 #[agT 0 (l + 3:Nat) (d + 1:Nat)] W fun e w' => e = .returned (.tuple #[agR (classC l + 257:Nat) (bitsC (classC l):Nat) (l % 2 ^ bitsC (classC l):Nat) (classC d:Nat) (bitsC (classC d):Nat) (d % 2 ^ bitsC (classC d):Nat) true,.bool true])∧Below W.heap.size W w':=split_match l d W l0 d0
theorem valC_class {v:Nat} (h:v < 32768):valC (classC v:Nat) (bitsC (classC v):Nat) (v % 2 ^ bitsC (classC v)) = some v:=by
 obtain ⟨c1,c2⟩:=class_is v h
 unfold valC
 rw [Int.toNat_natCast,if_pos ⟨by omega,by omega,rfl,Nat.mod_lt _ (Nat.pow_pos (by omega))⟩,c2]
theorem class_valC {n b:Int} {x v:Nat} (h:valC n b x = some v):v < 32768∧n = (classC v:Nat)∧b = (bitsC (classC v):Nat)∧x = v % 2 ^ bitsC (classC v):=by
 unfold valC at h
 split at h
 ·rename_i hc
  obtain ⟨h0,h1,h2,h3⟩:=hc
  obtain ⟨m,rfl⟩:=Int.eq_ofNat_of_zero_le h0
  rw [Int.toNat_natCast] at h2 h3 h
  cases h
  have ht:=baseC_top m (by omega)
  have e1:=class_of (v:=baseC m + x) (n:=m) (by omega) (by omega) (by omega)
  have e2:=extra_of (v:=baseC m + x) (n:=m) (by omega) (by omega) (by omega)
  rw [e1]
  exact ⟨by omega,rfl,h2,by rw [e2];omega⟩
 ·cases h
theorem join_all (m:Bool) (w:World) (h1:x1 < 4294967296) (h2:x2 < 4294967296) (g0:-9223372036854775808 ≤ n1) (g1:n1 ≤ 9223372036854775807) :
  Calls Tryz.prog 206 #[agR n1 b1 x1 n2 b2 x2 m] w fun e w' => e = .returned (joinV (joinR n1 b1 x1 n2 b2 x2 m))∧Below w.heap.size w w':=by
 cases m with
 | false =>
  have HT:=Lib.hid (fun W => token_byte n1 b1 x1 n2 b2 x2 W)
  obtain ⟨z,hz⟩:∃ z:Nat,IntKind.u8.wrap n1 = z∧z < 256∧(z:Int) = n1 % 256:=⟨(n1 % 256).toNat,by rw [IntKind.wrap_u8];omega,by omega,by omega⟩
  obtain ⟨hz1,hz2,hz3⟩:=hz
  rw [hz1] at HT
  have HS:=Lib.hid (fun W => split_byte z W hz2)
  unfold joinR
  rw [if_pos rfl]
  by_cases hc:0 ≤ n1∧n1 ≤ 255∧b1 = 0∧x1 = 0∧n2 = 0∧b2 = 0∧x2 = 0
  ·rw [if_pos hc]
   obtain ⟨g0,g1,rfl,rfl,rfl,rfl,rfl⟩:=hc
   have e:n1 = z:=by omega
   subst e
   rw [Int.toNat_natCast]
   exact join_yes z 0 0 0 0 0 false z 0 0 w HT HS
  ·rw [if_neg hc]
   exact join_ne n1 b1 x1 n2 b2 x2 false z 0 0 w z 0 0 0 0 0 false (by intro h;apply hc;omega) HT HS
 | true =>
  have HT:=Lib.hid (fun W => token_match n1 b1 x1 n2 b2 x2 W h1 h2)
  have p32:=vN_lt (wrap64 (n1 - 257)) b1 x1
  have q32:=vN_lt n2 b2 x2
  unfold joinR
  rw [if_neg (by simp)]
  by_cases hp:vN (wrap64 (n1 - 257)) b1 x1 < 256
  ·have HS:=Lib.hid (fun W => split_is (vN (wrap64 (n1 - 257)) b1 x1) (vN n2 b2 x2) hp q32 W)
   by_cases hc:257 ≤ n1∧n1 ≤ 272∧(valC (n1 - 257) b1 x1).isSome = true∧(valC n2 b2 x2).isSome = true
   ·rw [if_pos hc]
    obtain ⟨c1,c2,c3,c4⟩:=hc
    have hw:wrap64 (n1 - 257) = n1 - 257:=by rw [← IntWalk.i64_left];exact IntWalk.i64_in _ (by omega)
    rw [hw] at HT HS hp p32
    obtain ⟨p,hp2⟩:=Option.isSome_iff_exists.1 c3
    obtain ⟨q,hq2⟩:=Option.isSome_iff_exists.1 c4
    have e1:vN (n1 - 257) b1 x1 = p:=by unfold vN;rw [hp2];rfl
    have e2:vN n2 b2 x2 = q:=by unfold vN;rw [hq2];rfl
    rw [e1,e2] at HT HS ⊢
    obtain ⟨_,a1,a2,a3⟩:=class_valC hp2
    obtain ⟨_,a4,a5,a6⟩:=class_valC hq2
    rw [← a2,← a3,← a4,← a5,← a6] at HS
    have a7:((classC p + 257:Nat):Int) = n1:=by omega
    rw [a7] at HS
    exact join_yes n1 b1 x1 n2 b2 x2 true 0 (p + 3:Nat) (q + 1:Nat) w HT HS
   ·rw [if_neg hc]
    refine join_ne n1 b1 x1 n2 b2 x2 true 0 _ _ w _ _ _ _ _ _ true ?_ HT HS
    rintro ⟨d1,d2,d3,d4,d5,d6,_⟩
    apply hc
    have v1:=valC_class p32
    have v2:=valC_class q32
    have k1:=(class_is _ p32).1
    have k2:classC (vN (wrap64 (n1 - 257)) b1 x1) < 16:=by
     by_cases g:classC (vN (wrap64 (n1 - 257)) b1 x1) < 16
     ·exact g
     ·have b16:baseC 16 = 256:=by decide
      have:=(baseC_le_iff (v:=vN (wrap64 (n1 - 257)) b1 x1) (n:=16) p32 (by omega)).2 (by omega)
      omega
    have n1e:n1 - 257 = ((classC (vN (wrap64 (n1 - 257)) b1 x1):Nat):Int):=by omega
    have x1e:vN (wrap64 (n1 - 257)) b1 x1 % 2 ^ bitsC (classC (vN (wrap64 (n1 - 257)) b1 x1)) = x1:=by omega
    have x2e:vN n2 b2 x2 % 2 ^ bitsC (classC (vN n2 b2 x2)) = x2:=by omega
    rw [x1e,d2,← n1e] at v1
    rw [x2e,d4,d5] at v2
    exact ⟨by omega,by omega,by rw [v1];rfl,by rw [v2];rfl⟩
  ·have hr:rightT 0 ((vN (wrap64 (n1 - 257)) b1 x1 + 3:Nat):Int) ((vN n2 b2 x2 + 1:Nat):Int) = false:=by
    unfold rightT
    rw [if_neg (by omega)]
    simp
    omega
   have HS:=Lib.hid (fun W => split_no 0 ((vN (wrap64 (n1 - 257)) b1 x1 + 3:Nat):Int) ((vN n2 b2 x2 + 1:Nat):Int) W hr)
   rw [if_neg (fun hc => by
    obtain ⟨c1,c2,c3,c4⟩:=hc
    have hw:wrap64 (n1 - 257) = n1 - 257:=by rw [← IntWalk.i64_left];exact IntWalk.i64_in _ (by omega)
    rw [hw] at hp
    exact hp (valC_low (by omega)))]
   exact join_no n1 b1 x1 n2 b2 x2 true 0 _ _ w HT HS
end
end Go.Proofs.YtaknladkodibaaaGreatDoor
