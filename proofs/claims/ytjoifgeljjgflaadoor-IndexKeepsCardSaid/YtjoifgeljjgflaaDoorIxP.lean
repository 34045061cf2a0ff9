/- Layer 24: IndexPlays walked. -/
import Derived.Test.YtjoifgeljjgflaaDoorIxD
import Derived.Test.YtjoifgeljjgflaaDoorIxV
import Derived.Test.YtjoifgeljjgflaaDoorEnAR
import Derived.Test.YtjoifgeljjgflaaDoorLists
namespace Go.Proofs.YtjoifgeljjgflaaDoor
open Go.RowKit

theorem does_any (base g : Nat) (A : Option Addr) (c : Nat) (ms : List LM) (An : Option Addr) (cn : Nat) (B : Nat) (kd : Int) (m : LM) (s : ByteArray) (w : World) (h : LX w base g A c ms) (hg : GoodL ms) (hm : m.nm.size ≤ maxLen) (hfr : -9223372036854775808 ≤ m.fr ∧ m.fr ≤ 9223372036854775807) (hb : Cells w B An (memCells ms)) (hB : B ≤ w.heap.size) (ha : Apart w g A ms.length c An (memCells ms)) (hbase : base ≤ w.heap.size) :
    Calls Tryd.prog 11 #[.pointer (some ⟨g, 0, none⟩), .slice An ms.length cn, .agg #[.int .i64 kd, .string m.nm, .int .i64 m.at_, .int .i64 m.fr, .int .i64 m.ar, .int .i64 m.sz, .int .u32 m.su, .int .i64 m.me, .string s]] w fun e w' => ∃ A' c' An' cn', e = .returned (.tuple #[.bool true, .slice An' (stepM ms kd m s).length cn']) ∧ DoTo w base g A c ms (stepM ms kd m s) w' A' c' An' := by
  by_cases h0 : kd = 0
  · subst h0
    cases ht : m.B with
    | false =>
      have e : stepM ms 0 m s = ms := by unfold stepM; rw [ht]; simp
      rw [e]
      exact does0_bad base g A c ms An cn B m s w h hg hm hfr hb hB ha hbase ht
    | true =>
      cases hr : roomM ms m.nm with
      | false =>
        have e : stepM ms 0 m s = ms := by unfold stepM; rw [ht, hr]; simp
        rw [e]
        exact does0_full base g A c ms An cn B m s w h hg hm hfr hb hB ha hbase ht hr
      | true =>
        have e : stepM ms 0 m s = withK LM.nm ms m := by unfold stepM; rw [ht, hr]; simp
        rw [e]
        exact does0_ok base g A c ms An cn B m s w h hg hm hfr hb hB ha hbase ht hr
  · by_cases h1 : kd = 1
    · subst h1
      have e : stepM ms 1 m s = outK LM.nm ms s := rfl
      rw [e]
      cases ht : hasK LM.nm ms s with
      | true => exact does1_yes base g A c ms An cn B m s w h hg hm hfr hb hB ha hbase ht
      | false => exact does1_no base g A c ms An cn B m s w h hg hm hfr hb hB ha hbase ht
    · have e : stepM ms kd m s = ms := by unfold stepM; rw [if_neg h0, if_neg h1]
      rw [e]
      by_cases h2 : kd = 2
      · subst h2
        cases ht : hasK LM.nm ms s with
        | true => exact does2_yes base g A c ms An cn B m s w h hg hm hfr hb hB ha hbase ht
        | false => exact does2_no base g A c ms An cn B m s w h hg hm hfr hb hB ha hbase ht
      · exact does3_any base g A c ms An cn B kd m s w h hg hm hfr hb hB ha hbase h0 h1 h2

set_option maxHeartbeats 800000 in
theorem great24_any (A : Option Addr) (l c : Nat) (ms : List LM) (B : Nat) (w : World) (hl : ms.length = l) (hb : Cells w B A (memCells ms)) :
    Calls Tryd.prog 7 #[.slice A l c] w fun e w' => ∃ o : Bool, e = .returned (.bool o) ∧ w = w' ∧ (o = false → NarrowM ms) := by
  have HC := Lib.hid hb
  have HFL := Lib.hid (mems_len ms)
  clear hb
  go_enter Tryd.func7, Tryd.ntmps7
  go_wp2
  go_loopg [3] l (fun gk i wr => ∃ k : Nat, k + gk = l ∧ k ≤ 300 ∧ i = .int .i64 k ∧ wr = w ∧ ∀ j f, j < k → ms[j]? = some f → f.nm.size ≤ 200)
  case atStart => exact ⟨0, by omega, by omega, rfl, rfl, fun j f hj => absurd hj (Nat.not_lt_zero _)⟩
  case round =>
    obtain ⟨k, hk, hk3, rfl, rfl, hall⟩ := hrel
    have HA19 := Lib.hid hall
    clear hall
    by_cases h : k < l
    · by_cases h3 : k < 300
      · obtain ⟨f, hx⟩ : ∃ x, ms[k]? = some x := ⟨_, List.getElem?_eq_getElem (by omega)⟩
        obtain ⟨b, o, rfl, hbB, hc⟩ := HC.out (by rw [HFL.out]; omega)
        have c0 := (mem_at hbB hc (Below.refl _ _) hx).c0
        have HX := Lib.hid hx
        have hd3 : decide ((k : Int) < 300) = true := by simp; omega
        have HK3 := Lib.hid h3
        have hw1 : IntKind.i64.wrap ((k : Int) + 1) = (k : Int) + 1 := IntWalk.i64_in _ (by omega)
        clear hc hx h3 hk3
        by_cases hs : 200 < f.nm.size
        · have hd : decide (200 < (f.nm.size : Int)) = true := by simp; omega
          clear hs
          go_wp2
          go_ret
          exact ⟨true, rfl, rfl, fun h => by cases h⟩
        · have hd : decide (200 < (f.nm.size : Int)) = false := by simp; omega
          have HNA : Hid (f.nm.size ≤ 200) := by show _ ≤ _; omega
          clear hs
          go_wp2
          go_roundg (gk - 1)
          case measure => omega
          case rel =>
            have hk3 := HK3.out
            exact ⟨k + 1, by omega, by omega, by go_num, rfl, fun j f' hj hf' => by
            by_cases hjk : j = k
            · subst hjk
              rw [HX.out] at hf'
              injection hf' with hf'
              subst hf'
              exact HNA.out
            · exact HA19.out j f' (by omega) hf'⟩
      · obtain rfl : k = 300 := by omega
        have hl2 : decide (250 < (l : Int)) = true := by simp; omega
        go_wp2
        go_ret
        exact ⟨true, by rw [← hl2]; rfl, rfl, fun h => by cases h⟩
    · obtain rfl : k = l := by omega
      go_wp2
      go_ret
      exact ⟨decide (250 < (k : Int)), rfl, rfl, fun hd => ⟨by simp at hd; omega, fun f hf => by
        obtain ⟨j, hj⟩ := List.mem_iff_getElem?.1 hf
        exact HA19.out j f (by have := (List.getElem?_eq_some_iff.1 hj).1; omega) hj⟩⟩

/-- Are members more, or longer, than are gone through? -/
def greatM (ms : List LM) : Bool := (ms.take 300).any (fun f => decide (200 < f.nm.size)) || decide (250 < ms.length)
theorem greatM_many {ms : List LM} (h : 250 < ms.length) : greatM ms = true := by unfold greatM; simp [h]
theorem greatM_long {ms : List LM} {k : Nat} {f : LM} (h : ms[k]? = some f) (hk : k < 300) (hs : 200 < f.nm.size) : greatM ms = true := by
  unfold greatM
  rw [Bool.or_eq_true]
  left
  rw [List.any_eq_true]
  refine ⟨f, ?_, by simpa using hs⟩
  exact List.mem_iff_getElem?.2 ⟨k, by rw [List.getElem?_take_of_lt hk]; exact h⟩
set_option maxHeartbeats 800000 in
theorem great24B_any (A : Option Addr) (l c : Nat) (ms : List LM) (B : Nat) (w : World) (hl : ms.length = l) (hb : Cells w B A (memCells ms)) :
    Calls Tryd.prog 7 #[.slice A l c] w fun e w' => e = .returned (.bool (greatM ms)) ∧ w = w' := by
  have HC := Lib.hid hb
  have HFL := Lib.hid (mems_len ms)
  clear hb
  go_enter Tryd.func7, Tryd.ntmps7
  go_wp2
  go_loopg [3] l (fun gk i wr => ∃ k : Nat, k + gk = l ∧ k ≤ 300 ∧ i = .int .i64 k ∧ wr = w ∧ ∀ j f, j < k → ms[j]? = some f → f.nm.size ≤ 200)
  case atStart => exact ⟨0, by omega, by omega, rfl, rfl, fun j f hj => absurd hj (Nat.not_lt_zero _)⟩
  case round =>
    obtain ⟨k, hk, hk3, rfl, rfl, hall⟩ := hrel
    have HA19 := Lib.hid hall
    clear hall
    by_cases h : k < l
    · by_cases h3 : k < 300
      · obtain ⟨f, hx⟩ : ∃ x, ms[k]? = some x := ⟨_, List.getElem?_eq_getElem (by omega)⟩
        obtain ⟨b, o, rfl, hbB, hc⟩ := HC.out (by rw [HFL.out]; omega)
        have c0 := (mem_at hbB hc (Below.refl _ _) hx).c0
        have HX := Lib.hid hx
        have hd3 : decide ((k : Int) < 300) = true := by simp; omega
        have HK3 := Lib.hid h3
        have hw1 : IntKind.i64.wrap ((k : Int) + 1) = (k : Int) + 1 := IntWalk.i64_in _ (by omega)
        clear hc hx h3 hk3
        by_cases hs : 200 < f.nm.size
        · have hd : decide (200 < (f.nm.size : Int)) = true := by simp; omega
          have HGT : Hid (greatM ms = true) := greatM_long HX.out HK3.out hs
          clear hs
          go_wp2
          go_ret
          exact ⟨by rw [HGT.out]; rfl, rfl⟩
        · have hd : decide (200 < (f.nm.size : Int)) = false := by simp; omega
          have HNA : Hid (f.nm.size ≤ 200) := by show _ ≤ _; omega
          clear hs
          go_wp2
          go_roundg (gk - 1)
          case measure => omega
          case rel =>
            have hk3 := HK3.out
            exact ⟨k + 1, by omega, by omega, by go_num, rfl, fun j f' hj hf' => by
            by_cases hjk : j = k
            · subst hjk
              rw [HX.out] at hf'
              injection hf' with hf'
              subst hf'
              exact HNA.out
            · exact HA19.out j f' (by omega) hf'⟩
      · obtain rfl : k = 300 := by omega
        have hl2 : decide (250 < (l : Int)) = true := by simp; omega
        go_wp2
        go_ret
        exact ⟨by rw [show greatM ms = true from greatM_many (by omega), ← hl2]; rfl, rfl⟩
    · obtain rfl : k = l := by omega
      go_wp2
      go_ret
      refine ⟨?_, rfl⟩
      have e : greatM ms = decide (250 < (k : Int)) := by
        unfold greatM
        have h0 : (ms.take 300).any (fun f => decide (200 < f.nm.size)) = false := by
          rw [List.any_eq_false]
          intro f hf
          obtain ⟨j, hj⟩ := List.mem_iff_getElem?.1 (List.mem_of_mem_take hf)
          have := HA19.out j f (by have := (List.getElem?_eq_some_iff.1 hj).1; omega) hj
          simp; omega
        rw [h0, Bool.false_or]
        exact decide_eq_decide.2 (by omega)
      rw [e]
      rfl

/-- A call that came in. -/
structure LOp where
  kd : Int
  m : LM
  s : ByteArray
def LOp.cells (o : LOp) : List Value := [.int .i64 o.kd, .string o.m.nm, .int .i64 o.m.at_, .int .i64 o.m.fr, .int .i64 o.m.ar, .int .i64 o.m.sz, .int .u32 o.m.su, .int .i64 o.m.me, .string o.s]
theorem lops_len (os : List LOp) : (os.map LOp.cells).flatten.length = os.length * 9 := by
  induction os with
  | nil => rfl
  | cons m l ih => rw [List.map_cons, List.flatten_cons, List.length_append, ih, List.length_cons]; show 9 + _ = _; omega
theorem lop_at {w : World} {b a : Nat} {os : List LOp} {k : Nat} {o : LOp} (hc : ∀ j u, (os.map LOp.cells).flatten[j]? = some u → w.cell? ⟨b, a + j, none⟩ = some u) (h : os[k]? = some o) :
    w.cell? ⟨b, a + k * 9, none⟩ = some (.int .i64 o.kd) ∧ w.cell? ⟨b, a + k * 9 + 1, none⟩ = some (.string o.m.nm) ∧ w.cell? ⟨b, a + k * 9 + 2, none⟩ = some (.int .i64 o.m.at_) ∧ w.cell? ⟨b, a + k * 9 + 3, none⟩ = some (.int .i64 o.m.fr) ∧ w.cell? ⟨b, a + k * 9 + 4, none⟩ = some (.int .i64 o.m.ar) ∧ w.cell? ⟨b, a + k * 9 + 5, none⟩ = some (.int .i64 o.m.sz) ∧ w.cell? ⟨b, a + k * 9 + 6, none⟩ = some (.int .u32 o.m.su) ∧ w.cell? ⟨b, a + k * 9 + 7, none⟩ = some (.int .i64 o.m.me) ∧ w.cell? ⟨b, a + k * 9 + 8, none⟩ = some (.string o.s) := by
  have key : ∀ (r : Nat) (u : Value), o.cells[r]? = some u → w.cell? ⟨b, a + (k * 9 + r), none⟩ = some u := fun r u hu => hc _ _ (code_at (rs := os) (code := LOp.cells) (s := 9) (fun _ _ => rfl) h hu)
  have k0 := key 0 _ rfl
  have k1 := key 1 _ rfl
  have k2 := key 2 _ rfl
  have k3 := key 3 _ rfl
  have k4 := key 4 _ rfl
  have k5 := key 5 _ rfl
  have k6 := key 6 _ rfl
  have k7 := key 7 _ rfl
  have k8 := key 8 _ rfl
  simp only [← Nat.add_assoc, Nat.add_zero] at k0 k1 k2 k3 k4 k5 k6 k7 k8
  exact ⟨k0, k1, k2, k3, k4, k5, k6, k7, k8⟩

theorem Mod.belowIx {w w' : World} {base g n c : Nat} {A : Option Addr} {ms : List LM} {B : Nat} {W : World} (h : Mod (ixS g A n c) w w') (hx : LX w base g A c ms) (hn : n = ms.length) (hb : Below B W w) (hB : B ≤ base) : Below B W w' :=
  h.below hb (Nat.le_trans hB (by have := (hx.lts g (.inl rfl)); omega)) (fun k hk => Nat.le_trans hB (hx.lts k (by rw [← hn]; exact hk)).2)

set_option maxRecDepth 100000 in
set_option maxHeartbeats 4000000 in
theorem indexplays_any (A0 : Option Addr) (l c0 : Nat) (ms : List LM) (C : Option Addr) (l2 c2 : Nat) (os : List LOp) (w : World) (hl : ms.length = l) (hl2 : os.length = l2) (hm2 : l2 ≤ 9223372036854775807)
    (hok : ∀ m ∈ ms, m.Ok) (hok2 : ∀ o ∈ os, o.m.Ok) (hb : Cells w w.heap.size A0 (memCells ms)) (hb2 : Cells w w.heap.size C (os.map LOp.cells).flatten) :
    Calls Tryd.prog 3 #[.slice A0 l c0, .slice C l2 c2] w fun e w' => e = .returned (.bool true) ∧ Below w.heap.size w w' := by
  have HC := Lib.hid hb
  have HC2 := Lib.hid hb2
  have HOK := Lib.hid hok
  have HOK2 := Lib.hid hok2
  have HL := Lib.hid hl
  have HL2 := Lib.hid hl2
  have HGR := Lib.hid (great24_any A0 l c0 ms w.heap.size w hl hb)
  have HLV := Lib.hid (fun W => lives24_any W)
  clear hb hb2 hok hok2 hl hl2
  go_enter Tryd.func3, Tryd.ntmps3
  go_wp2_with fail
  refine HGR.out.mono ?_
  rintro e w' ⟨o, rfl, rfl, hnar⟩
  cases o with
  | true =>
    go_wp2_with (go_at_call 8; refine (HLV.out _).mono ?_; rintro e w' ⟨rfl, hbel⟩; have HB := Lib.hid hbel; clear hbel)
    go_ret
    exact ⟨rfl, HB.out⟩
  | false =>
    have HN := Lib.hid (hnar rfl)
    clear hnar HGR
    by_cases hlong : 300 < l2
    · have hd : decide (300 < (l2 : Int)) = true := by simp; omega
      go_wp2_with (go_at_call 8; refine (HLV.out _).mono ?_; rintro e w' ⟨rfl, hbel⟩; have HB := Lib.hid hbel; clear hbel)
      go_ret
      exact ⟨rfl, HB.out⟩
    · have hd : decide (300 < (l2 : Int)) = false := by simp; omega
      clear hlong
      have hl250 : l ≤ 250 := by have := HN.out.1; have := HL.out; omega
      cases hall : allB ms with
      | false =>
        have HNW := Lib.hid (ixNew_bad A0 l c0 ms w.heap.size w HL.out HOK.out HC.out (Nat.le_refl _) hall)
        have HAR := Lib.hid (fun W (hW : Below w.heap.size w W) => refEnAll_any A0 l c0 ms w.heap.size W HL.out (by omega) HOK.out (HC.out.below hW (Nat.le_refl _)) hW.size)
        rw [hall] at HAR
        clear hall
        go_wp2_with (first
          | (go_at_call 9; refine HNW.out.mono ?_; rintro e w1 ⟨rfl, hbel⟩; have HB1 := Lib.hid hbel; clear hbel HNW)
          | (go_at_call 10; refine (HAR.out _ HB1.out).mono ?_; rintro e w2 ⟨rfl, hbel⟩; have HB2 := Lib.hid (HB1.out.trans (hbel.mono HB1.out.size)); clear hbel HAR)
          | (go_at_call 8; refine (HLV.out _).mono ?_; rintro e w3 ⟨rfl, hbel⟩; have HB3 := Lib.hid (HB2.out.trans (hbel.mono HB2.out.size)); clear hbel HLV))
        go_ret
        exact ⟨rfl, HB3.out⟩
      | true =>
        have HNW := Lib.hid (ixNew_good A0 l c0 ms w.heap.size w HL.out HOK.out HC.out (Nat.le_refl _) hall)
        have HAR := Lib.hid (fun W (hW : Below w.heap.size w W) => refEnAll_any A0 l c0 ms w.heap.size W HL.out (by omega) HOK.out (HC.out.below hW (Nat.le_refl _)) hW.size)
        rw [hall] at HAR
        have HG0 : Hid (GoodL ms) := ⟨rises_of ms hall, (allB_true.1 hall).1, fun m hm => by
          obtain ⟨j, hj⟩ := List.mem_iff_getElem?.1 hm
          obtain ⟨m', h1, h2, _⟩ := (allB_true.1 hall).2 j (List.getElem?_eq_some_iff.1 hj).1
          rw [hj] at h1
          injection h1 with h1
          subst h1
          exact ⟨h2, HOK.out _ hm⟩⟩
        clear hall
        go_wp2_with fail
        refine HNW.out.mono ?_
        rintro e w1 ⟨g, A1, c1, rfl, hix, hbel⟩
        have HB1 := Lib.hid hbel
        have HX1 := Lib.hid hix
        clear hbel hix HNW
        go_wp2_with fail
        refine (HAR.out _ HB1.out).mono ?_
        rintro e w2 ⟨rfl, hbel⟩
        have HB2 := Lib.hid (HB1.out.trans (hbel.mono HB1.out.size))
        have HX2 := Lib.hid (HX1.out.below hbel rfl)
        have APT : Hid (Apart w2 g A1 ms.length c1 A0 (memCells ms)) := fun hp => by
          obtain ⟨b, o, e, hb, _⟩ := HC.out hp
          exact ⟨b, o, e, fun hk => by have := (HX1.out.lts b hk).2; omega, Nat.lt_of_lt_of_le hb HB2.out.size⟩
        clear hbel HAR
        go_wp2
        go_loopg [7, 8, 9] l2 (fun gk v f i wr => ∃ k : Nat, ∃ ns : List LM, ∃ A2 k2 An cn, ∃ fb : Bool, k + gk = l2 ∧ i = .int .i64 k ∧ v = .slice An ns.length cn ∧ f = .bool fb ∧ GoodL ns ∧ LX wr w.heap.size g A2 k2 ns ∧ Cells wr wr.heap.size An (memCells ns) ∧ Apart wr g A2 ns.length k2 An (memCells ns) ∧ Below w.heap.size w wr)
        case atStart => exact ⟨0, ms, A1, c1, A0, c0, true, by omega, rfl, by rw [HL.out], rfl, HG0.out, HX2.out, (HC.out.below HB2.out (Nat.le_refl _)).more HB2.out.size, APT.out, HB2.out⟩
        case round =>
          obtain ⟨k, ns, A2, k2, An, cn, fb, hk, rfl, rfl, rfl, hgl, hlx, hcn, hap, hbel⟩ := hrel
          have HGL := Lib.hid hgl
          have HLX := Lib.hid hlx
          have HCN := Lib.hid hcn
          have HAPT := Lib.hid hap
          have HBL := Lib.hid hbel
          have hnl := hgl.len
          clear hgl hlx hcn hap hbel
          by_cases h : k < l2
          · obtain ⟨o, hx⟩ : ∃ x, os[k]? = some x := ⟨_, List.getElem?_eq_getElem (by have := HL2.out; omega)⟩
            obtain ⟨b, a, rfl, hbB, hc⟩ := HC2.out (by rw [lops_len]; have := HL2.out; omega)
            obtain ⟨z0, z1, z2, z3, z4, z5, z6, z7, z8⟩ := lop_at (fun j u hu => (HBL.out.cell (p := ⟨b, a + j, none⟩) hbB).trans (hc j u hu)) hx
            have HOKo := Lib.hid (HOK2.out o (List.mem_of_getElem? hx))
            have hw1 : IntKind.i64.wrap ((k : Int) + 1) = (k : Int) + 1 := IntWalk.i64_in _ (by omega)
            have HDO := Lib.hid (does_any w.heap.size g A2 k2 ns An cn wr.heap.size o.kd o.m o.s wr HLX.out HGL.out HOKo.out.1 ⟨HOKo.out.2.1, HOKo.out.2.2.1⟩ HCN.out (Nat.le_refl _) HAPT.out HBL.out.size)
            have HGS := Lib.hid (HGL.out.step o.kd o.m o.s HOKo.out)
            clear hc hx
            by_cases hskip : o.kd = 0 ∧ 200 < o.m.nm.size
            · obtain ⟨hs1, hs2⟩ := hskip
              have hd2 : decide (200 < (o.m.nm.size : Int)) = true := by simp; omega
              rw [hs1] at z0
              clear hs1 HDO HGS
              go_wp2
              go_roundg (gk - 1)
              case measure => omega
              case rel => exact ⟨k + 1, ns, A2, k2, An, cn, fb, by omega, by go_num, rfl, rfl, HGL.out, HLX.out, HCN.out, HAPT.out, HBL.out⟩
            · obtain ⟨ns3, hns3⟩ : ∃ ns3, stepM ns o.kd o.m o.s = ns3 := ⟨_, rfl⟩
              rw [hns3] at HDO HGS
              clear hns3
              have hnl3 := HGS.out.len
              have HEQ : Hid (eqL ns3 ns3 = true) := eqL_refl ns3
              have hsk : (o.kd = 0 ∧ decide (200 < (o.m.nm.size : Int)) = false) ∨ (¬ o.kd = 0) := by
                by_cases h0 : o.kd = 0
                · exact .inl ⟨h0, by simp; omega⟩
                · exact .inr h0
              clear hskip
              rcases hsk with ⟨h0, hd2⟩ | h0
              · rw [h0] at z0 HDO
                clear h0
                go_wp2_with (first
                  | (go_at_call 11; refine HDO.out.mono ?_; rintro e w3 ⟨A3, c3, An3, cn3, rfl, hdo⟩; have HX3 := Lib.hid hdo.ixto.ix; have HB3 := Lib.hid (hdo.ixto.mod.belowIx HLX.out rfl HBL.out (Nat.le_refl _)); have HC3 := Lib.hid hdo.cells; have HA3 := Lib.hid hdo.apart; clear hdo HDO)
                  | (go_at_call 12; refine (ixLen_any w.heap.size g A3 c3 ns3 _ HX3.out).mono ?_; rintro e w4 ⟨rfl, rfl⟩)
                  | (go_at_call 14; refine (ixAll_any w.heap.size g A3 c3 ns3 _ HX3.out).mono ?_; rintro e w4 ⟨A4, c4, rfl, hown, hbel⟩; have HX4 := Lib.hid (HX3.out.below hbel rfl); have HO4 := Lib.hid hown; have HB4 := Lib.hid (HB3.out.trans (hbel.mono HB3.out.size)); have HC4 := Lib.hid ((HC3.out.below hbel (Nat.le_refl _)).more hbel.size); have HA4 := Lib.hid (HA3.out.below hbel); clear hown hbel)
                  | (go_at_call 13; refine (refSame_any A4 ns3.length c4 ns3 An3 ns3.length cn3 ns3 w4.heap.size w4 rfl rfl (by omega) (own_cells7 HO4.out) HC4.out).mono ?_; rw [HEQ.out]; rintro e w5 ⟨rfl, n5, rfl⟩)
                  | (go_at_call 15; refine (ixBytes_any w.heap.size g A3 c3 ns3 (w4.drewN n5) (HX4.out.drewN n5) (by have := HGS.out.rows; omega)).mono ?_; rintro e w6 ⟨rfl, hbel⟩; have HB6 := Lib.hid ((Below.drewN HB4.out n5).trans (hbel.mono HB4.out.size)); have HC6 := Lib.hid (Cells.below (Cells.drewN' HC4.out n5) hbel (Nat.le_refl _)); have HA6 := Lib.hid (HA4.out.below (Below.drewN (Below.refl w4.heap.size w4) n5 |>.trans hbel)); have HX6 := Lib.hid ((HX4.out.drewN n5).below hbel rfl); have HS6 := Lib.hid hbel.size; clear hbel)
                  | (go_at_call 16; refine (ref24Bytes_any An3 ns3.length cn3 ns3 w4.heap.size w6 rfl (by omega) (by have := HGS.out.rows; omega) HC6.out).mono ?_; rintro e w7 ⟨rfl, rfl⟩))
                go_roundg (gk - 1)
                case measure => omega
                case rel => exact ⟨k + 1, ns3, A3, c3, An3, cn3, true, by omega, by go_num, rfl, rfl, HGS.out, HX6.out, HC6.out.more HS6.out, HA6.out, HB6.out⟩
              · go_wp2_with (first
                  | (go_at_call 11; refine HDO.out.mono ?_; rintro e w3 ⟨A3, c3, An3, cn3, rfl, hdo⟩; have HX3 := Lib.hid hdo.ixto.ix; have HB3 := Lib.hid (hdo.ixto.mod.belowIx HLX.out rfl HBL.out (Nat.le_refl _)); have HC3 := Lib.hid hdo.cells; have HA3 := Lib.hid hdo.apart; clear hdo HDO)
                  | (go_at_call 12; refine (ixLen_any w.heap.size g A3 c3 ns3 _ HX3.out).mono ?_; rintro e w4 ⟨rfl, rfl⟩)
                  | (go_at_call 14; refine (ixAll_any w.heap.size g A3 c3 ns3 _ HX3.out).mono ?_; rintro e w4 ⟨A4, c4, rfl, hown, hbel⟩; have HX4 := Lib.hid (HX3.out.below hbel rfl); have HO4 := Lib.hid hown; have HB4 := Lib.hid (HB3.out.trans (hbel.mono HB3.out.size)); have HC4 := Lib.hid ((HC3.out.below hbel (Nat.le_refl _)).more hbel.size); have HA4 := Lib.hid (HA3.out.below hbel); clear hown hbel)
                  | (go_at_call 13; refine (refSame_any A4 ns3.length c4 ns3 An3 ns3.length cn3 ns3 w4.heap.size w4 rfl rfl (by omega) (own_cells7 HO4.out) HC4.out).mono ?_; rw [HEQ.out]; rintro e w5 ⟨rfl, n5, rfl⟩)
                  | (go_at_call 15; refine (ixBytes_any w.heap.size g A3 c3 ns3 (w4.drewN n5) (HX4.out.drewN n5) (by have := HGS.out.rows; omega)).mono ?_; rintro e w6 ⟨rfl, hbel⟩; have HB6 := Lib.hid ((Below.drewN HB4.out n5).trans (hbel.mono HB4.out.size)); have HC6 := Lib.hid (Cells.below (Cells.drewN' HC4.out n5) hbel (Nat.le_refl _)); have HA6 := Lib.hid (HA4.out.below (Below.drewN (Below.refl w4.heap.size w4) n5 |>.trans hbel)); have HX6 := Lib.hid ((HX4.out.drewN n5).below hbel rfl); have HS6 := Lib.hid hbel.size; clear hbel)
                  | (go_at_call 16; refine (ref24Bytes_any An3 ns3.length cn3 ns3 w4.heap.size w6 rfl (by omega) (by have := HGS.out.rows; omega) HC6.out).mono ?_; rintro e w7 ⟨rfl, rfl⟩))
                go_roundg (gk - 1)
                case measure => omega
                case rel => exact ⟨k + 1, ns3, A3, c3, An3, cn3, true, by omega, by go_num, rfl, rfl, HGS.out, HX6.out, HC6.out.more HS6.out, HA6.out, HB6.out⟩
          · obtain rfl : k = l2 := by omega
            have HEQ : Hid (eqL ns ns = true) := eqL_refl ns
            go_wp2_with (first
              | (go_at_call 12; refine (ixLen_any w.heap.size g A2 k2 ns _ HLX.out).mono ?_; rintro e w4 ⟨rfl, rfl⟩)
              | (go_at_call 14; refine (ixAll_any w.heap.size g A2 k2 ns _ HLX.out).mono ?_; rintro e w4 ⟨A4, c4, rfl, hown, hbel⟩; have HX4 := Lib.hid (HLX.out.below hbel rfl); have HO4 := Lib.hid hown; have HB4 := Lib.hid (HBL.out.trans (hbel.mono HBL.out.size)); have HC4 := Lib.hid ((HCN.out.below hbel (Nat.le_refl _)).more hbel.size); clear hown hbel)
              | (go_at_call 13; refine (refSame_any A4 ns.length c4 ns An ns.length cn ns w4.heap.size w4 rfl rfl (by omega) (own_cells7 HO4.out) HC4.out).mono ?_; rw [HEQ.out]; rintro e w5 ⟨rfl, n5, rfl⟩)
              | (go_at_call 15; refine (ixBytes_any w.heap.size g A2 k2 ns (w4.drewN n5) (HX4.out.drewN n5) (by have := HGL.out.rows; omega)).mono ?_; rintro e w6 ⟨rfl, hbel⟩; have HB6 := Lib.hid ((Below.drewN HB4.out n5).trans (hbel.mono HB4.out.size)); have HC6 := Lib.hid (Cells.below (Cells.drewN' HC4.out n5) hbel (Nat.le_refl _)); clear hbel)
              | (go_at_call 16; refine (ref24Bytes_any An ns.length cn ns w4.heap.size w6 rfl (by omega) (by have := HGL.out.rows; omega) HC6.out).mono ?_; rintro e w7 ⟨rfl, rfl⟩)
              | (go_at_call 8; refine (HLV.out _).mono ?_; rintro e w8 ⟨rfl, hbel⟩; have HB8 := Lib.hid (HB6.out.trans (hbel.mono HB6.out.size)); clear hbel))
            go_ret
            exact ⟨rfl, HB8.out⟩
end Go.Proofs.YtjoifgeljjgflaaDoor
