/- Layer 22, plainly: what stands at a place. -/
import Derived.Test.YtaknladkodibaaaGreatDoorMgQ12836
import Derived.Test.YtaknladkodibaaaGreatDoorMgQ12839
import Derived.Test.YtaknladkodibaaaGreatDoorMgQ128SDcEn
import Derived.Test.YtaknladkodibaaaGreatDoorMgQ12842
import Derived.Test.YtaknladkodibaaaGreatDoorMgQ12814
import Derived.Test.YtaknladkodibaaaGreatDoorMgQ12824
import Derived.Deep.LoopGhost
namespace Go.Proofs.YtaknladkodibaaaGreatDoor
open Go.RowKit CrcP FieldP

end Go.Proofs.YtaknladkodibaaaGreatDoor
/- Layer 22: a record that isn't streamed is taken. -/
namespace Go.Proofs.YtaknladkodibaaaGreatDoor
open Go.RowKit CrcP FieldP
attribute [local go_sem ↓] Go.wp_at_zero Go.wp_at_succ

end Go.Proofs.YtaknladkodibaaaGreatDoor
/- Layer 22: a streamed member's record: record.Stream. -/
namespace Go.Proofs.YtaknladkodibaaaGreatDoor
open Go.RowKit CrcP FieldP
attribute [local go_sem ↓] Go.wp_at_zero Go.wp_at_succ

/-- A streamed payload. -/
def arP (ls : List PcV) : List UInt8 := pcsB ls ++ [0, 0]
/-- A streamed record's bytes. -/
def strB (s : ByteArray) (ls : List PcV) : List UInt8 := headB 2 s.data.toList 0 0 0 ++ arP ls ++ descB (sumP ls : Nat) ((arP ls).length : Nat) (CrcP.sumN (arP ls) : Nat)
theorem descB_len (a b s : Nat) : (descB a b s).length = 20 := by
  unfold descB threeB
  rw [sealed_length]
  simp [putN_length, descBytes]
theorem strB_len (s : ByteArray) (ls : List PcV) : (strB s ls).length = 22 + s.size + (arP ls).length + 20 := by
  unfold strB
  rw [List.length_append, List.length_append, headB_length, descB_len]
  rfl
theorem hdB_str {s : ByteArray} (hr : rightB s.data.toList = true) : hdB ((2 : Nat) : Int) s.data.toList ((0 : Nat) : Int) ((0 : Nat) : Int) ((0 : Nat) : Int) = true := by
  unfold hdB
  rw [hr]
  decide
set_option maxRecDepth 100000 in
set_option maxHeartbeats 1000000 in
theorem recStr_no (tg : Nat) (v : Value) (s : ByteArray) (w : World) (hs : s.size ≤ maxLen) (hr : rightB s.data.toList = false) :
    Calls Tryz.prog 14 #[.pointer (some ⟨tg, 0, none⟩), .string s, v] w fun e w' => e = .returned (.tuple #[.slice none 0 0, .int .i64 6]) ∧ Below w.heap.size w w' := by
  have HR := Lib.hid (rightM_any s w hs)
  rw [hr] at HR
  clear hs hr
  go_enter Tryz.func14, Tryz.ntmps14
  go_wp2_with (go_at_call 30; refine HR.out.mono ?_; rintro e w1 ⟨rfl, hb1⟩; have HB1 := Lib.hid hb1; clear hb1)
  exact bodyPost_ret (results_tmp2 rfl _ _ _) rfl ⟨rfl, HB1.out⟩
set_option maxRecDepth 100000 in
set_option maxHeartbeats 2000000 in
theorem recStr_yes (tg : Nat) (A : Option Addr) (l c : Nat) (ls : List PcV) (s : ByteArray) (w : World) (hT : Table w tg) (hW : Wid w) (hs : s.size ≤ maxLen) (hr : rightB s.data.toList = true) (hl : ls.length = l) (hm : l ≤ 1000) (hrw : RowsIn w A ls) (hall : ∀ x ∈ ls, x.1.length ≤ 65535) (hsum : sumP ls ≤ 65535) :
    Calls Tryz.prog 14 #[.pointer (some ⟨tg, 0, none⟩), .string s, .slice A l c] w fun e w' => ∃ A' c', e = .returned (.tuple #[.slice A' (strB s ls).length c', .int .i64 0]) ∧ OwnY w' w.heap.size (.slice A' (strB s ls).length c') (strB s ls).length (strB s ls) ∧ Below w.heap.size w w' := by
  have HR := Lib.hid (rightM_any s w hs)
  rw [hr] at HR
  have htl := hT.lt
  have hw0 := hW.1
  have h64 := rightB_len' hr
  have hss : s.data.toList.length = s.size := by rw [Array.length_toList]; rfl
  rw [hss] at h64
  have HST : Hid (∀ W, Below w.heap.size w W → _) := fun W hV => stream_any A l c ls W hl hm (hrw.belowS hV) hsum
  obtain ⟨hov, hdb⟩ := ofV_stream hall hsum (by omega)
  have hpl := pcsB_len ls
  rw [strB_len]
  have hSB : strB s ls = headB 2 s.data.toList 0 0 0 ++ arP ls ++ descB (sumP ls : Nat) ((arP ls).length : Nat) (CrcP.sumN (arP ls) : Nat) := rfl
  rw [hSB]
  change ofV (arP ls) = _ at hov
  change dcB _ ((arP ls).length : Nat) = true at hdb
  have hal : (arP ls).length ≤ sumP ls + 2 * l + 2 := by unfold arP; rw [List.length_append]; simp; omega
  have HST' : Hid (∀ W, Below w.heap.size w W → Calls Tryz.prog 38 #[.slice A l c] W fun e w' => ∃ A' n c', e = .returned (.tuple #[.slice A' n c', .int .i64 0]) ∧ OwnY w' W.heap.size (.slice A' n c') n (arP ls) ∧ Below W.heap.size W w') := HST.out
  obtain ⟨ar, har⟩ : ∃ ar, arP ls = ar := ⟨_, rfl⟩
  rw [har] at hov hdb hal HST' ⊢
  obtain ⟨sm, hsm⟩ : ∃ sm, sumP ls = sm := ⟨_, rfl⟩
  rw [hsm] at hov hdb hal hsum ⊢
  obtain ⟨la, hla⟩ : ∃ la, ar.length = la := ⟨_, rfl⟩
  have hov2 : ofV ar = (sm, la, CrcP.sumN ar, 0) := by rw [← hla]; rw [← har]; rw [← har] at hov; exact hov
  rw [hla] at hdb hal ⊢
  have hsl := sumN_lt ar
  have HOF : Hid (∀ (W : World) (A2 : Option Addr) (c2 : Nat), la ≤ c2 → Bytes W W.heap.size A2 ar → Below w.heap.size w W → _) := fun W A2 c2 hc hbb hV => dcOf_any tg A2 la c2 W.heap.size ar W (hT.below hV htl) hla (by omega) hc hbb (Nat.le_refl _)
  rw [hov2] at HOF
  dsimp only at HOF
  obtain ⟨su, hsu⟩ : ∃ su, CrcP.sumN ar = su := ⟨_, rfl⟩
  rw [hsu] at HOF hsl ⊢
  have HLP : Hid (∀ W, Below w.heap.size w W → _) := fun W hW' => lcPut_yes tg 2 s 0 0 0 W (hW.below hW' hw0 (by have := hW'.size; omega)) (by omega) (hdB_str hr) (hT.below hW' htl)
  have HDP : Hid (∀ W, Below w.heap.size w W → _) := fun W hW' => dcPut_yes tg sm la su W hdb (by omega) (by omega) (hT.below hW' htl)
  obtain ⟨HD, hHD⟩ : ∃ HD, headB 2 s.data.toList 0 0 0 = HD := ⟨_, rfl⟩
  rw [hHD] at HLP ⊢
  obtain ⟨DB, hDB⟩ : ∃ DB, descB (sm : Nat) (la : Nat) (su : Nat) = DB := ⟨_, rfl⟩
  rw [hDB] at HDP ⊢
  have hla2 : la ≤ 67537 := by omega
  have HLA := Lib.hid hla
  have hdl : DB.length = 20 := by rw [← hDB]; exact descB_len _ _ _
  have HDL := Lib.hid hdl
  clear hT hW hs hr hl hrw hall hsum hov hov2 hdb hal hpl hsm har hla hsu hHD hDB hss hSB HST hdl
  go_enter Tryz.func14, Tryz.ntmps14
  go_wp2_with (first
    | (go_at_call 30; refine HR.out.mono ?_; rintro e w1 ⟨rfl, hb1⟩; have HB1 := Lib.hid hb1; clear hb1)
    | (go_at_call 38; refine (HST'.out w1 HB1.out).mono ?_; rintro e w2 ⟨A2, la', c2, rfl, ho2, hb2⟩; obtain rfl : la' = la := (by have h1 := ho2.1; rw [byteCells_length, HLA.out] at h1; exact h1.symm); have HCP := Lib.hid (capS ho2); have HC2 := Lib.hid ho2.cells; have HB2 := Lib.hid (HB1.out.trans (hb2.mono HB1.out.size)); clear ho2 hb2)
    | (go_at_call 39; refine (HOF.out w2 A2 c2 HCP.out HC2.out HB2.out).mono ?_; rintro e w3 ⟨rfl, hb3⟩; have HC3 := Lib.hid (HC2.out.below hb3 (Nat.le_refl _)); have HB3 := Lib.hid (HB2.out.trans (hb3.mono HB2.out.size)); have HS3 := Lib.hid hb3.size; clear hb3; obtain ⟨W4, hW4⟩ : ∃ W4, w3.alloc (.cells #[.int .i64 (sm : Int), .int .i64 (la' : Int), .int .u32 (su : Int)] 78) = W4 := ⟨_, rfl⟩; have HD4 : Hid (Box W4 w3.heap.size #[.int .i64 (sm : Int), .int .i64 (la' : Int), .int .u32 (su : Int)] 78) := (by show Box _ _ _ _; rw [← hW4]; exact heap_alloc_new w3 _); have HB4 : Hid (Below w.heap.size w W4) := (by show Below _ _ _; rw [← hW4]; exact HB3.out.alloc HB3.out.size _); have HC4 : Hid (Cells W4 w2.heap.size A2 (byteCells ar)) := (by show Cells _ _ _ _; rw [← hW4]; exact HC3.out.below ((Below.refl _ w3).alloc (Nat.le_refl _) _) HS3.out); have HS4 : Hid (w2.heap.size ≤ W4.heap.size) := (by show _ ≤ _; have h1 := HD4.out.lt; have h2 := HS3.out; omega))
    | (go_at_call 32; refine (HLP.out W4 HB4.out).mono ?_; rintro e w5 ⟨A5, c5, rfl, ho5, hb5⟩; have HO5 := Lib.hid (ho5.le HB4.out.size); have HD5 := Lib.hid (HD4.out.below hb5 HD4.out.lt); have HC5 := Lib.hid (HC4.out.below hb5 HS4.out); have HB5 := Lib.hid (HB4.out.trans (hb5.mono HB4.out.size)); have HS5 : Hid (w2.heap.size ≤ w5.heap.size) := Nat.le_trans HS4.out hb5.size; clear ho5 hb5; have d0 : w5.cell? ⟨w3.heap.size, 0, none⟩ = some (.int .i64 (sm : Int)) := HD5.out.cell 0; have d1 : w5.cell? ⟨w3.heap.size, 1, none⟩ = some (.int .i64 (la' : Int)) := HD5.out.cell 1; have d2 : w5.cell? ⟨w3.heap.size, 2, none⟩ = some (.int .u32 (su : Int)) := HD5.out.cell 2)
    | (go_at_call 40; refine (HDP.out w5 HB5.out).mono ?_; rintro e w6 ⟨A6, c6, rfl, ho6, hb6⟩; have HO6 := Lib.hid ho6; have HO56 := Lib.hid (HO5.out.keep (Mod.of_below hb6) (fun _ _ h => h)); have HC6 := Lib.hid (HC5.out.below hb6 HS5.out); have HB6 := Lib.hid (HB5.out.trans (hb6.mono HB5.out.size)); have HS6 : Hid (∀ k, ownS (.slice A5 (22 + s.size) c5) k → k < w5.heap.size) := (fun k hk => (HO5.out.lt k hk).2); clear ho6 hb6)
    | (at_builtin; refine wpList_appT w6 byteElem rfl (.tmp 47) (.tmp 48) rfl w.heap.size (.slice A5 (22 + s.size) c5) (22 + s.size) (byteCells HD) rfl HO56.out w2.heap.size A2 la' c2 (byteCells ar) rfl (by rw [byteCells_length, HLA.out]) HC6.out (byteCells_one _) (by unfold maxLen; omega) (by omega) HB6.out.size ?_; intro A7 c7 w7 hap; have HAP7 := Lib.hid hap; have HO67 := Lib.hid (HO6.out.keep hap.mod (fun k hk hk2 => by have h1 := (HO6.out.lt k hk).1; have h2 := HS6.out k hk2; omega)); have HB7 := Lib.hid (hap.below HB6.out HB6.out.size (fun k hk => (HO5.out.lt k hk).1)); clear hap)
    | (at_builtin; refine wpList_appT w7 byteElem rfl (.tmp 49) (.tmp 50) rfl w.heap.size (.slice A7 (22 + s.size + la') c7) (22 + s.size + la') (byteCells HD ++ byteCells ar) rfl HAP7.out.own w7.heap.size A6 20 c6 (byteCells DB) rfl (by rw [byteCells_length, HDL.out]) HO67.out.cells (byteCells_one _) (by unfold maxLen; omega) (by omega) HB7.out.size ?_; intro A8 c8 w8 hap; have HAP8 := Lib.hid hap; have HB8 := Lib.hid (hap.below HB7.out HB7.out.size (fun k hk => (HAP7.out.own.lt k hk).1)); clear hap))
  refine bodyPost_ret (results_tmp2 rfl _ _ _) rfl ?_
  refine ⟨A8, c8, rfl, ?_, HB8.out⟩
  have h := HAP8.out.own
  unfold OwnY
  rw [byteCells_append, byteCells_append]
  exact h
end Go.Proofs.YtaknladkodibaaaGreatDoor
/- Layer 22: a streamed member's record: the document's answer. -/
namespace Go.Proofs.YtaknladkodibaaaGreatDoor
open Go.RowKit CrcP FieldP
attribute [local go_sem ↓] Go.wp_at_zero Go.wp_at_succ

end Go.Proofs.YtaknladkodibaaaGreatDoor
