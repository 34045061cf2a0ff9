/- The walk of FieldBack. -/
import Derived.Test.YtlbjamnbbkaooaaFieldRd
import Derived.Test.YtlbjamnbbkaooaaBytesIn
namespace Go.Proofs.Ytlbjamnbbkaooaa
open Go.RowKit FieldP

theorem law_big (A : Option Addr) (l c : Nat) (A1 : Option Addr) (l1 c1 : Nat) (b : Int) (w : World) (h : 3000 < l ∨ 100 < l1 ∨ b < 1 ∨ 4 < b) :
    Calls Try.prog 5 #[.slice A l c, .slice A1 l1 c1, .int .i64 b] w fun e w' => e = .returned (.bool true) ∧ Below w.heap.size w w' := by
  by_cases h1 : 3000 < l
  · have hbi : (3000 : Int) < (l : Int) := by omega
    clear h
    go_enter Try.func5, Try.ntmps5
    go_wp2_with (go_at_call 11; refine (lives_any _).mono ?_; rintro e w4 ⟨rfl, hb4⟩; have HB4 := Lib.hid hb4; clear hb4)
    go_ret
    exact ⟨rfl, HB4.out⟩
  have hbi : ¬ (3000 : Int) < (l : Int) := by omega
  by_cases h2 : 100 < l1
  · have hbi : (100 : Int) < (l1 : Int) := by omega
    clear h
    go_enter Try.func5, Try.ntmps5
    go_wp2_with (go_at_call 11; refine (lives_any _).mono ?_; rintro e w4 ⟨rfl, hb4⟩; have HB4 := Lib.hid hb4; clear hb4)
    go_ret
    exact ⟨rfl, HB4.out⟩
  have hbi2 : ¬ (100 : Int) < (l1 : Int) := by omega
  by_cases h3 : b < 1
  · clear h
    go_enter Try.func5, Try.ntmps5
    go_wp2_with (go_at_call 11; refine (lives_any _).mono ?_; rintro e w4 ⟨rfl, hb4⟩; have HB4 := Lib.hid hb4; clear hb4)
    go_ret
    exact ⟨rfl, HB4.out⟩
  have h4 : 4 < b := by omega
  clear h
  go_enter Try.func5, Try.ntmps5
  go_wp2_with (go_at_call 11; refine (lives_any _).mono ?_; rintro e w4 ⟨rfl, hb4⟩; have HB4 := Lib.hid hb4; clear hb4)
  go_ret
  exact ⟨rfl, HB4.out⟩

/-- The cells of numbers of 32 bits. -/
def wordCells (ns : List Nat) : List Value := ns.map fun (n : Nat) => Value.int .u32 (n : Int)
theorem wordCells_get {ns : List Nat} {j x : Nat} (h : ns[j]? = some x) : (wordCells ns)[j]? = some (.int .u32 (x : Int)) := by simp [wordCells, h]

/-- How many bytes some numbers have. -/
def ml (k q : Nat) : Nat := k * q
theorem ml_succ (k q : Nat) : ml (k + 1) q = ml k q + q := by unfold ml; rw [Nat.add_mul, Nat.one_mul]
theorem ml_le {k q : Nat} (hk : k ≤ 100) (hq : q ≤ 4) : ml k q ≤ 400 := Nat.mul_le_mul hk hq

/-- What is read at a number's place is the number, as far as its bytes go. -/
theorem flat_read {bs : List UInt8} {ns : List Nat} {l k q x : Nat} (hl : bs.length = l) (h : ns[k]? = some x) (hx : x < 4294967296) (q1 : 1 ≤ q) (q4 : q ≤ 4) :
    ∃ y : Nat, getN (bs ++ flat q ns) ((l : Int) + (k : Int) * (q : Int)) q = some y ∧ (q = 1 → (x : Int) % 256 = y) ∧ (q = 2 → (x : Int) % 65536 = y) ∧ (q = 3 → (x : Int) % 16777216 = y) ∧ (q = 4 → (x : Int) = y) := by
  have h1 := getN_flat (bs := bs) (q := q) h
  rw [hl] at h1
  refine ⟨x % unit q, ?_, ?_, ?_, ?_, ?_⟩
  · rw [← h1]
    congr 1
  · rintro rfl; show _ = ((x % 256 : Nat) : Int); omega
  · rintro rfl; show _ = ((x % 65536 : Nat) : Int); omega
  · rintro rfl; show _ = ((x % 16777216 : Nat) : Int); omega
  · rintro rfl; show _ = ((x % 4294967296 : Nat) : Int); omega

set_option maxRecDepth 100000 in
set_option maxHeartbeats 1000000 in
theorem back_walk (A : Option Addr) (l c : Nat) (bs : List UInt8) (Y : Option Addr) (l1 cY : Nat) (ns : List Nat) (q : Nat) (w : World) (hl : bs.length = l) (hm : l ≤ 3000) (hl1 : ns.length = l1) (hm1 : l1 ≤ 100)
    (q1 : 1 ≤ q) (q4 : q ≤ 4) (hn : ∀ n ∈ ns, n < 4294967296) (hb : Bytes w w.heap.size A bs) (hb1 : Cells w w.heap.size Y (wordCells ns)) :
    Calls Try.prog 5 #[.slice A l c, .slice Y l1 cY, .int .i64 q] w fun e w' => e = .returned (.bool true) ∧ Below w.heap.size w w' := by
  have HL := Lib.hid hl
  have HL1 := Lib.hid hl1
  have HN := Lib.hid hn
  have HB : Hid (Bytes w w.heap.size A bs) := hb
  have HB1 : Hid (Cells w w.heap.size Y (wordCells ns)) := hb1
  have HCNT : Hid (cnt (q : Int) = q) := by have := cnt_of (b := (q : Int)) (by omega) (by omega); show cnt _ = q; omega
  clear hl hl1 hn hb hb1
  have hbi : ¬ (3000 : Int) < (l : Int) := by omega
  have hbi2 : ¬ (100 : Int) < (l1 : Int) := by omega
  have hq1 : decide ((q : Int) < 1) = false := by simp; omega
  have hq4 : decide ((4 : Int) < (q : Int)) = false := by simp; omega
  go_enter Try.func5, Try.ntmps5
  go_wp2_with (at_builtin; refine wpList_app _ byteElem rfl (.tmp 31) (.tmp 32) rfl w.heap.size (.slice (some ⟨w.heap.size, 0, none⟩) 0 0) 0 [] rfl (own_empty w _ (Nat.le_refl _)) w.heap.size A l c (byteCells bs) rfl (by rw [byteCells_length, HL.out, Nat.mul_one]) (HB.out.alloc (Nat.le_refl _) _) (byteCells_one _) (by unfold maxLen; omega) (by omega) (by simp) ?_; intro A1 c1 w1 hA; have HA := Lib.hid hA; clear hA)
  simp only [Nat.zero_add, List.nil_append] at HA ⊢
  have HBEL := Lib.hid (HA.out.below (((Below.refl w.heap.size w).alloc (Nat.le_refl _) (.cells #[] 5))) (by simp) (by simp [Value.ownBlock]))
  have HOWN := Lib.hid HA.out.own
  clear HA
  go_loopw [7, 8] (fun v i wr => ∃ (k : Nat) (A' : Option Addr) (c' : Nat), k ≤ l1 ∧ i = .int .i64 k ∧ v = .slice A' (l + ml k q) c' ∧ OwnB wr w.heap.size 5 (.slice A' (l + ml k q) c') (l + ml k q) (bs ++ flat q (ns.take k)) ∧ Below w.heap.size w wr) (fun _ i _ => l1 - (intOf i).toNat)
  case atStart => exact ⟨0, A1, c1, by omega, rfl, by simp [ml], by simpa [ml, flat] using HOWN.out, HBEL.out⟩
  case round =>
    obtain ⟨k, A2, c2, hk, rfl, rfl, hown, hbel⟩ := hrel
    have HO2 := Lib.hid hown
    have HBEL2 := Lib.hid hbel
    clear hown hbel HOWN HBEL
    have hml := ml_le (k := k) (q := q) (by omega) q4
    by_cases hkl : k < l1
    · obtain ⟨x, hxk⟩ := get_lt (bs := ns) (k := k) (by rw [HL1.out]; exact hkl)
      have hx := HN.out x (List.mem_of_getElem? hxk)
      have HF := Lib.hid (flat_take (q := q) hxk)
      have HMS := Lib.hid (ml_succ k q)
      obtain ⟨b', o, rfl, hbB, hcell⟩ := HB1.out.below HBEL2.out (Nat.le_refl _) (by rw [wordCells, List.length_map, HL1.out]; omega)
      have hc := hcell k _ (wordCells_get hxk)
      clear hcell hxk
      generalize ml k q = t at *
      go_wp2_with fail
      refine (put_any _ (l + t) _ _ _ w.heap.size _ (by omega) (by omega) (by omega) (by omega) (by omega) HO2.out HBEL2.out.size).mono ?_
      rintro e w3 ⟨A3, c3, rfl, happ⟩
      rw [HCNT.out, Int.toNat_natCast] at happ
      rw [HCNT.out]
      have HA3 := Lib.hid happ
      clear happ
      go_wp2
      refine ⟨⟨k + 1, A3, c3, by omega, by go_num, ?_, ?_, HA3.out.below HBEL2.out HBEL2.out.size (own_base HO2.out)⟩, by simp [intOf]; omega⟩
      · rw [HMS.out, Nat.add_assoc]
      · rw [HMS.out, HF.out, ← Nat.add_assoc, ← List.append_assoc]
        exact HA3.out.own
    · obtain rfl : l1 = k := by omega
      have HK : Hid (ns.take l1 = ns) := List.take_of_length_le (by rw [HL1.out]; exact Nat.le_refl _)
      rw [HK.out] at HO2
      clear HK
      have HT : Hid ((bs ++ flat q ns).length = l + ml l1 q) := by show _ = _; rw [List.length_append, flat_length, HL.out, HL1.out]; rfl
      generalize hml2 : ml l1 q = t at *
      have HML := Lib.hid hml2
      clear hml2
      have HB2 := Lib.hid (Cells.of_own HO2.out)
      clear HO2
      go_wp2_with (go_at_call 16; refine (new_any _ _ _ _).mono ?_; rintro e w' ⟨rfl, rfl⟩)
      have HRD := Lib.hid (rd_new A2 (l + t) c2 wr)
      have HB3 := Lib.hid (HB2.out.alloc (Nat.le_refl _) (.cells #[.slice A2 (l + t) c2, .int .i64 0, .bool false] 67))
      have HBEL3 := Lib.hid (HBEL2.out.alloc HBEL2.out.size (.cells #[.slice A2 (l + t) c2, .int .i64 0, .bool false] 67))
      have HGB := Lib.hid HBEL2.out.size
      clear HBEL2 HB2
      generalize wr.alloc (.cells #[.slice A2 (l + t) c2, .int .i64 0, .bool false] 67) = w2 at *
      generalize wr.heap.size = g at *
      refine (seek_any g A2 (l + t) c2 0 _ w2 HRD.out (by omega) (by omega)).mono ?_
      rintro e w3 ⟨rfl, hrd, honly⟩
      have HRD3 := Lib.hid hrd
      have HBEL4 := Lib.hid (only_below honly HBEL3.out HBEL3.out.size HGB.out)
      have HB4 := Lib.hid (HB3.out.only honly (Nat.le_of_lt HRD.out.lt) (Nat.le_refl _))
      clear hrd honly HRD HBEL3 HB3
      go_wp2
      go_loopw [10] (fun i wr => ∃ k : Nat, k ≤ l1 ∧ i = .int .i64 k ∧ Rd wr g A2 (l + t) c2 ((l + ml k q : Nat) : Int) false ∧ Bytes wr g A2 (bs ++ flat q ns) ∧ Below w.heap.size w wr) (fun i _ => l1 - (intOf i).toNat)
      case atStart => exact ⟨0, by omega, rfl, by simpa [ml] using HRD3.out, HB4.out, HBEL4.out⟩
      case round =>
        obtain ⟨i, hi, rfl, hrd, hby, hbel⟩ := hrel
        have HRD5 := Lib.hid hrd
        have HB5 : Hid (Bytes wr g A2 (bs ++ flat q ns)) := hby
        have HBEL5 := Lib.hid hbel
        clear hrd hby hbel HRD3 HB4 HBEL4
        have hmi := ml_le (k := i) (q := q) (by omega) q4
        by_cases hil : i < l1
        · obtain ⟨x, hxi⟩ := get_lt (bs := ns) (k := i) (by rw [HL1.out]; exact hil)
          have hx := HN.out x (List.mem_of_getElem? hxi)
          obtain ⟨y, hy, y1, y2, y3, y4⟩ := flat_read HL.out hxi hx q1 q4
          obtain ⟨b', o, rfl, hbB, hcell⟩ := HB1.out.below HBEL5.out (Nat.le_refl _) (by rw [wordCells, List.length_map, HL1.out]; omega)
          have hc := hcell i _ (wordCells_get hxi)
          have hit : ml i q + q ≤ t := by
            rw [← ml_succ, ← HML.out]
            exact Nat.mul_le_mul_right q hil
          have HYP : Hid (getN (bs ++ flat q ns) ((l + ml i q : Nat) : Int) q = some y) := by
            have e : ((l + ml i q : Nat) : Int) = (l : Int) + (i : Int) * (q : Int) := by unfold ml; simp
            show _ = _
            rw [e]
            exact hy
          have HMS := Lib.hid (ml_succ i q)
          have HY := Lib.hid hy
          clear hcell hxi hy
          generalize hmlg : ml i q = s at *
          have HSG := Lib.hid hmlg
          clear hmlg
          have hqc : q = 1 ∨ q = 2 ∨ q = 3 ∨ q = 4 := by omega
          rcases hqc with rfl | rfl | rfl | rfl
          · have hy := y1 rfl
            clear y1 y2 y3 y4
            have HGET : Hid (Calls Try.prog 14 #[.slice A2 (l + t) c2, .int .i64 ((l : Int) + (i : Int)), .int .i64 1] wr fun e w' => e = .returned (.tuple #[.int .u32 (y : Int), .bool true]) ∧ wr = w') := Lib.hid (by
              have h := get_any A2 (l + t) c2 (bs ++ flat 1 ns) g ((l : Int) + (i : Int) * ((1 : Nat) : Int)) 1 wr HT.out (by omega) (by omega) (by omega) (by omega) (by omega) HB5.out
              rw [show cnt 1 = 1 from rfl, HY.out] at h
              simpa [orZero] using h)
            have HNUM : Hid (Calls Try.prog 18 #[.pointer (some ⟨g, 0, none⟩), .int .i64 1] wr fun e w' => e = .returned (.int .u32 (y : Int)) ∧ Rd w' g A2 (l + t) c2 (((l + s : Nat) : Int) + (1 : Nat)) false ∧ Only g wr w') :=
              number_any g A2 (l + t) c2 (bs ++ flat 1 ns) g _ 1 y wr HRD5.out HT.out (by omega) (by omega) (by omega) (by omega) (by omega) HB5.out HYP.out
            go_wp2_with fail
            refine HGET.out.mono ?_
            rintro e w' ⟨rfl, rfl⟩
            go_wp2_with fail
            refine HNUM.out.mono ?_
            rintro e w4 ⟨rfl, hrd, honly⟩
            have HRD6 := Lib.hid hrd
            have HON := Lib.hid honly
            clear hrd honly
            go_wp2
            refine ⟨?_, by simp [intOf]; omega⟩
            repeat apply Exists.intro
            refine ⟨?rel, ?fr⟩
            case fr => rfl
            case rel => exact ⟨i + 1, by omega, by go_num, by rw [HMS.out]; simpa [Int.add_assoc] using HRD6.out, HB5.out.only HON.out (Nat.le_of_lt HRD5.out.lt) (Nat.le_refl _), only_below HON.out HBEL5.out HBEL5.out.size HGB.out⟩
          · have hy := y2 rfl
            clear y1 y2 y3 y4
            have HGET : Hid (Calls Try.prog 14 #[.slice A2 (l + t) c2, .int .i64 ((l : Int) + (i : Int) * 2), .int .i64 2] wr fun e w' => e = .returned (.tuple #[.int .u32 (y : Int), .bool true]) ∧ wr = w') := Lib.hid (by
              have h := get_any A2 (l + t) c2 (bs ++ flat 2 ns) g ((l : Int) + (i : Int) * ((2 : Nat) : Int)) 2 wr HT.out (by omega) (by omega) (by omega) (by omega) (by omega) HB5.out
              rw [show cnt 2 = 2 from rfl, HY.out] at h
              simpa [orZero] using h)
            have HNUM : Hid (Calls Try.prog 18 #[.pointer (some ⟨g, 0, none⟩), .int .i64 2] wr fun e w' => e = .returned (.int .u32 (y : Int)) ∧ Rd w' g A2 (l + t) c2 (((l + s : Nat) : Int) + (2 : Nat)) false ∧ Only g wr w') :=
              number_any g A2 (l + t) c2 (bs ++ flat 2 ns) g _ 2 y wr HRD5.out HT.out (by omega) (by omega) (by omega) (by omega) (by omega) HB5.out HYP.out
            go_wp2_with fail
            refine HGET.out.mono ?_
            rintro e w' ⟨rfl, rfl⟩
            go_wp2_with fail
            refine HNUM.out.mono ?_
            rintro e w4 ⟨rfl, hrd, honly⟩
            have HRD6 := Lib.hid hrd
            have HON := Lib.hid honly
            clear hrd honly
            go_wp2
            refine ⟨?_, by simp [intOf]; omega⟩
            repeat apply Exists.intro
            refine ⟨?rel, ?fr⟩
            case fr => rfl
            case rel => exact ⟨i + 1, by omega, by go_num, by rw [HMS.out]; simpa [Int.add_assoc] using HRD6.out, HB5.out.only HON.out (Nat.le_of_lt HRD5.out.lt) (Nat.le_refl _), only_below HON.out HBEL5.out HBEL5.out.size HGB.out⟩
          · have hy := y3 rfl
            clear y1 y2 y3 y4
            have HGET : Hid (Calls Try.prog 14 #[.slice A2 (l + t) c2, .int .i64 ((l : Int) + (i : Int) * 3), .int .i64 3] wr fun e w' => e = .returned (.tuple #[.int .u32 (y : Int), .bool true]) ∧ wr = w') := Lib.hid (by
              have h := get_any A2 (l + t) c2 (bs ++ flat 3 ns) g ((l : Int) + (i : Int) * ((3 : Nat) : Int)) 3 wr HT.out (by omega) (by omega) (by omega) (by omega) (by omega) HB5.out
              rw [show cnt 3 = 3 from rfl, HY.out] at h
              simpa [orZero] using h)
            have HNUM : Hid (Calls Try.prog 18 #[.pointer (some ⟨g, 0, none⟩), .int .i64 3] wr fun e w' => e = .returned (.int .u32 (y : Int)) ∧ Rd w' g A2 (l + t) c2 (((l + s : Nat) : Int) + (3 : Nat)) false ∧ Only g wr w') :=
              number_any g A2 (l + t) c2 (bs ++ flat 3 ns) g _ 3 y wr HRD5.out HT.out (by omega) (by omega) (by omega) (by omega) (by omega) HB5.out HYP.out
            go_wp2_with fail
            refine HGET.out.mono ?_
            rintro e w' ⟨rfl, rfl⟩
            go_wp2_with fail
            refine HNUM.out.mono ?_
            rintro e w4 ⟨rfl, hrd, honly⟩
            have HRD6 := Lib.hid hrd
            have HON := Lib.hid honly
            clear hrd honly
            go_wp2
            refine ⟨?_, by simp [intOf]; omega⟩
            repeat apply Exists.intro
            refine ⟨?rel, ?fr⟩
            case fr => rfl
            case rel => exact ⟨i + 1, by omega, by go_num, by rw [HMS.out]; simpa [Int.add_assoc] using HRD6.out, HB5.out.only HON.out (Nat.le_of_lt HRD5.out.lt) (Nat.le_refl _), only_below HON.out HBEL5.out HBEL5.out.size HGB.out⟩
          · have hy := y4 rfl
            clear y1 y2 y3 y4
            have HGET : Hid (Calls Try.prog 14 #[.slice A2 (l + t) c2, .int .i64 ((l : Int) + (i : Int) * 4), .int .i64 4] wr fun e w' => e = .returned (.tuple #[.int .u32 (y : Int), .bool true]) ∧ wr = w') := Lib.hid (by
              have h := get_any A2 (l + t) c2 (bs ++ flat 4 ns) g ((l : Int) + (i : Int) * ((4 : Nat) : Int)) 4 wr HT.out (by omega) (by omega) (by omega) (by omega) (by omega) HB5.out
              rw [show cnt 4 = 4 from rfl, HY.out] at h
              simpa [orZero] using h)
            have HNUM : Hid (Calls Try.prog 18 #[.pointer (some ⟨g, 0, none⟩), .int .i64 4] wr fun e w' => e = .returned (.int .u32 (y : Int)) ∧ Rd w' g A2 (l + t) c2 (((l + s : Nat) : Int) + (4 : Nat)) false ∧ Only g wr w') :=
              number_any g A2 (l + t) c2 (bs ++ flat 4 ns) g _ 4 y wr HRD5.out HT.out (by omega) (by omega) (by omega) (by omega) (by omega) HB5.out HYP.out
            go_wp2_with fail
            refine HGET.out.mono ?_
            rintro e w' ⟨rfl, rfl⟩
            go_wp2_with fail
            refine HNUM.out.mono ?_
            rintro e w4 ⟨rfl, hrd, honly⟩
            have HRD6 := Lib.hid hrd
            have HON := Lib.hid honly
            clear hrd honly
            go_wp2
            refine ⟨?_, by simp [intOf]; omega⟩
            repeat apply Exists.intro
            refine ⟨?rel, ?fr⟩
            case fr => rfl
            case rel => exact ⟨i + 1, by omega, by go_num, by rw [HMS.out]; simpa [Int.add_assoc] using HRD6.out, HB5.out.only HON.out (Nat.le_of_lt HRD5.out.lt) (Nat.le_refl _), only_below HON.out HBEL5.out HBEL5.out.size HGB.out⟩
        · obtain rfl : i = l1 := by omega
          rw [HML.out] at HRD5
          have HOK := Lib.hid (ok_any g A2 (l + t) c2 _ false wr HRD5.out)
          have HLEFT := Lib.hid (left_any g A2 (l + t) c2 _ false wr HRD5.out (by omega) (by omega) (by omega))
          rw [Int.sub_self] at HLEFT
          go_wp2_with fail
          refine HOK.out.mono ?_
          rintro e w' ⟨rfl, rfl⟩
          go_wp2_with fail
          refine HLEFT.out.mono ?_
          rintro e w' ⟨rfl, nd, rfl⟩
          have HB6 := Lib.hid (⟨HBEL5.out.os, HBEL5.out.tape, HBEL5.out.output, HBEL5.out.size, HBEL5.out.block⟩ : Below w.heap.size w (wr.drewN nd))
          generalize wr.drewN nd = w5 at *
          go_wp2_with (go_at_call 11; refine (lives_any _).mono ?_; rintro e w4 ⟨rfl, hb4⟩; have HB4 := Lib.hid hb4; clear hb4)
          go_ret
          exact ⟨rfl, HB6.out.trans (HB4.out.mono HB6.out.size)⟩

theorem words_of_row {w : World} {a : Option Addr} {len cap : Nat} {zs : List Int}
    (h : (a = none ∧ len = 0 ∧ cap = 0 ∧ zs = []) ∨
      ∃ x, a = some x ∧ len ≤ cap ∧ cap ≤ maxLen ∧ zs.length = cap ∧ (∀ i, i < zs.length → w.cell? (x.add i) = some (.int .u32 (zs.getD i 0))) ∧ ∀ n ∈ zs, (Lit.int .u32 n).wf = true) :
    ∃ ns : List Nat, ns.length = len ∧ (∀ n ∈ ns, n < 4294967296) ∧ Cells w w.heap.size a (wordCells ns) := by
  obtain ⟨is, hl, _, hc, hw⟩ := ints_of_row h
  refine ⟨is.map Int.toNat, by simpa using hl, fun n hn => ?_, ?_⟩
  · obtain ⟨i, hi, rfl⟩ := List.mem_map.1 hn
    have := bounds_u32 (hw i hi)
    omega
  · have e : wordCells (is.map Int.toNat) = is.map (Value.int .u32) := by
      unfold wordCells
      rw [List.map_map]
      apply List.map_congr_left
      intro i hi
      have := bounds_u32 (hw i hi)
      show Value.int .u32 ((i.toNat : Nat) : Int) = _
      rw [Int.toNat_of_nonneg (by omega)]
    rw [e]
    exact hc

theorem back_all (A : Option Addr) (l c : Nat) (bs : List UInt8) (Y : Option Addr) (l1 cY : Nat) (ns : List Nat) (b : Int) (w : World) (hl : bs.length = l) (hl1 : ns.length = l1)
    (hn : ∀ n ∈ ns, n < 4294967296) (hb : Bytes w w.heap.size A bs) (hb1 : Cells w w.heap.size Y (wordCells ns)) :
    Calls Try.prog 5 #[.slice A l c, .slice Y l1 cY, .int .i64 b] w fun e w' => e = .returned (.bool true) ∧ Below w.heap.size w w' := by
  by_cases h : 3000 < l ∨ 100 < l1 ∨ b < 1 ∨ 4 < b
  · exact law_big A l c Y l1 cY b w h
  · obtain ⟨q, rfl⟩ := Int.eq_ofNat_of_zero_le (show 0 ≤ b by omega)
    exact back_walk A l c bs Y l1 cY ns q w hl (by omega) hl1 (by omega) (by omega) (by omega) hn hb hb1
end Go.Proofs.Ytlbjamnbbkaooaa
