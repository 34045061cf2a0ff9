/- Layer 24: the reference's members of a folder. -/
import Derived.Test.YtjoifgeljjgflaaDoorMgQ14434
import Derived.Test.YtjoifgeljjgflaaDoorMgQ14431
import Derived.Test.YtjoifgeljjgflaaDoorMgQ14432
import Derived.Test.YtjoifgeljjgflaaDoorMgQ14422
import Derived.Test.YtjoifgeljjgflaaDoorMgQ14410
namespace Go.Proofs.YtjoifgeljjgflaaDoor
open Go.RowKit

set_option maxRecDepth 100000 in
set_option maxHeartbeats 1000000 in
theorem ref24In_any (A : Option Addr) (l c : Nat) (ms : List LM) (s : ByteArray) (B : Nat) (w : World) (hl : ms.length = l) (hm : l ≤ 1000000000) (hb : Cells w B A (memCells ms)) (hB : B ≤ w.heap.size) (hs : s.size ≤ 1000) (hn : ∀ m ∈ ms, m.nm.size ≤ maxLen) :
    Calls Tryd.prog 17 #[.slice A l c, .string s] w fun e w' => ∃ A' c', e = .returned (.slice A' (inL s ms).length c') ∧ w'.ownsRow w.heap.size 32 7 (.slice A' (inL s ms).length c') (inL s ms).length (memCells (inL s ms)) ∧ Below w.heap.size w w' := by
  have HC := Lib.hid hb
  have HFL := Lib.hid (mems_len ms)
  have HL := Lib.hid hl
  have HB := Lib.hid hB
  have HN := Lib.hid hn
  have HI := Lib.hid (fun x W (hx : ByteArray.size x ≤ maxLen) => refIn_any s x W hs hx)
  clear hb hl hB hn hs
  go_enter Tryd.func17, Tryd.ntmps17
  go_wp2
  go_loopg [5, 6] l (fun gk v i wr => ∃ k : Nat, ∃ os : List LM, k + gk = l ∧ i = .int .i64 k ∧ os = inL s (ms.take k) ∧ wr.ownsRow w.heap.size 32 7 v os.length (memCells os) ∧ Below w.heap.size w wr)
  case atStart => exact ⟨0, [], by omega, rfl, rfl, World.ownsRow_nil _ _ _ _, Below.refl _ _⟩
  case round =>
    obtain ⟨k, os, hk, rfl, hos, hown, hbel⟩ := hrel
    have HOWN := Lib.hid hown
    have HBL := Lib.hid hbel
    have HOS := Lib.hid hos
    clear hown hbel hos
    obtain ⟨Ak, ck, rfl⟩ := own_form' HOWN.out
    by_cases h : k < l
    · obtain ⟨x, hx⟩ : ∃ x, ms[k]? = some x := ⟨_, List.getElem?_eq_getElem (by have := HL.out; omega)⟩
      obtain ⟨b, o, rfl, hbB, hc⟩ := HC.out (by rw [HFL.out]; have := HL.out; omega)
      obtain ⟨c0, c1, c2, c3, c4, c5, c6⟩ := mem_at hbB hc (hBw_below HBL.out HB.out) hx
      have HTK := Lib.hid (take_snoc hx)
      have hw1 : IntKind.i64.wrap ((k : Int) + 1) = (k : Int) + 1 := IntWalk.i64_in _ (by omega)
      have HIX := Lib.hid (fun W => HI.out x.nm W (HN.out x (List.mem_of_getElem? hx)))
      obtain ⟨q, hq⟩ : ∃ q, inF s x.nm = q := ⟨_, rfl⟩
      rw [hq] at HIX
      have HSN := Lib.hid (inL_snoc s (ms.take k) x)
      rw [show inM s x = q from hq] at HSN
      have HOL : Hid (os.length ≤ k) := by
        show _ ≤ _
        rw [HOS.out]
        exact Nat.le_trans (List.length_filter_le _ _) (by rw [List.length_take]; omega)
      have HCX := Lib.hid hc
      have HXX := Lib.hid hx
      have HBB := Lib.hid hbB
      clear hc hx hq
      cases q with
      | false =>
        rw [if_neg (by decide)] at HSN
        go_wp2_with (go_at_call 36; refine (HIX.out _).mono ?_; rintro e w1 ⟨rfl, hbel⟩; have HB3 := Lib.hid hbel; clear hbel)
        go_roundg (gk - 1)
        case measure => omega
        case rel =>
          have hb3 := HB3.out
          refine ⟨k + 1, os, by omega, by go_num, by rw [HTK.out, HSN.out]; exact HOS.out, own_keep HOWN.out (Mod.of_below hb3) (fun _ _ hh => hh), HBL.out.trans (hb3.mono HBL.out.size)⟩
      | true =>
        rw [if_pos rfl] at HSN
        have hz0 := HBL.out.size
        have hol := HOL.out
        go_wp2_with (first
          | (go_at_call 36; refine (HIX.out _).mono ?_; rintro e w1 ⟨rfl, hbel⟩; have HB3 := Lib.hid hbel; have HO1 := Lib.hid (own_keep HOWN.out (Mod.of_below hbel) (fun _ _ hh => hh)); obtain ⟨d0, d1, d2, d3, d4, d5, d6⟩ := mem_at HBB.out HCX.out (hBw_below (HBL.out.trans (hbel.mono HBL.out.size)) HB.out) HXX.out; have hz1 := hbel.size; clear hbel c0 c1 c2 c3 c4 c5 c6)
          | (at_builtin; go_must (skip; refine wpList_app1 _ memElem rfl (.tmp 20) (.tmp 25) rfl w.heap.size (.slice Ak os.length ck) os.length _ rfl HO1.out #[.string x.nm, .int .i64 x.at_, .int .i64 x.fr, .int .i64 x.ar, .int .i64 x.sz, .int .u32 x.su, .int .i64 x.me] rfl rfl (by intro u hu; simp only [List.mem_cons, List.not_mem_nil, or_false] at hu; rcases hu with rfl | rfl | rfl | rfl | rfl | rfl | rfl <;> rfl) (by unfold maxLen; omega) (by omega) (by omega) ?_; intro A3 c3 w3 hA; have HA := Lib.hid hA; clear hA)))
        go_roundg (gk - 1)
        case measure => omega
        case rel =>
          have ho := HA.out.own
          have hb3 := HB3.out
          have hb4 := HBL.out.trans (hb3.mono HBL.out.size)
          refine ⟨k + 1, os ++ [x], by omega, by go_num, by rw [HTK.out, HSN.out, HOS.out], ?_, HA.out.below hb4 hb4.size (fun q hq => (HO1.out.lt q hq).1)⟩
          rw [memCells_snoc, List.length_append]
          exact ho
    · obtain rfl : k = l := by omega
      have HK : Hid (inL s ms = os) := by show _ = _; rw [HOS.out, List.take_of_length_le (by have := HL.out; omega)]
      go_wp2
      go_ret
      rw [HK.out]
      exact ⟨Ak, ck, rfl, HOWN.out, HBL.out⟩
end Go.Proofs.YtjoifgeljjgflaaDoor
/- Layer 24: IndexPlays walked. -/
namespace Go.Proofs.YtjoifgeljjgflaaDoor
open Go.RowKit

theorem does_any (base g : Nat) (A : Option Addr) (c : Nat) (ms : List LM) (An : Option Addr) (cn : Nat) (B : Nat) (kd : Int) (m : LM) (s : ByteArray) (w : World) (h : LX w base g A c ms) (hg : GoodL ms) (hm : m.nm.size ≤ maxLen) (hfr : -9223372036854775808 ≤ m.fr ∧ m.fr ≤ 9223372036854775807) (hb : Cells w B An (memCells ms)) (hB : B ≤ w.heap.size) (ha : Apart w g A ms.length c An (memCells ms)) (hbase : base ≤ w.heap.size) :
    Calls Tryd.prog 11 #[.pointer (some ⟨g, 0, none⟩), .slice An ms.length cn, .agg #[.int .i64 kd, .string m.nm, .int .i64 m.at_, .int .i64 m.fr, .int .i64 m.ar, .int .i64 m.sz, .int .u32 m.su, .int .i64 m.me, .string s]] w fun e w' => ∃ A' c' An' cn', e = .returned (.tuple #[.bool true, .slice An' (stepM ms kd m s).length cn']) ∧ DoTo w base g A c ms (stepM ms kd m s) w' A' c' An' := by
  by_cases h0 : kd = 0
  · subst h0
    cases ht : m.B with
    | false =>
      have e : stepM ms 0 m s = ms := by unfold stepM; rw [ht]; simp
      rw [e]
      exact does0_bad base g A c ms An cn B m s w h hg hm hfr hb hB ha hbase ht
    | true =>
      cases hr : roomM ms m.nm with
      | false =>
        have e : stepM ms 0 m s = ms := by unfold stepM; rw [ht, hr]; simp
        rw [e]
        exact does0_full base g A c ms An cn B m s w h hg hm hfr hb hB ha hbase ht hr
      | true =>
        have e : stepM ms 0 m s = withK LM.nm ms m := by unfold stepM; rw [ht, hr]; simp
        rw [e]
        exact does0_ok base g A c ms An cn B m s w h hg hm hfr hb hB ha hbase ht hr
  · by_cases h1 : kd = 1
    · subst h1
      have e : stepM ms 1 m s = outK LM.nm ms s := rfl
      rw [e]
      cases ht : hasK LM.nm ms s with
      | true => exact does1_yes base g A c ms An cn B m s w h hg hm hfr hb hB ha hbase ht
      | false => exact does1_no base g A c ms An cn B m s w h hg hm hfr hb hB ha hbase ht
    · have e : stepM ms kd m s = ms := by unfold stepM; rw [if_neg h0, if_neg h1]
      rw [e]
      by_cases h2 : kd = 2
      · subst h2
        cases ht : hasK LM.nm ms s with
        | true => exact does2_yes base g A c ms An cn B m s w h hg hm hfr hb hB ha hbase ht
        | false => exact does2_no base g A c ms An cn B m s w h hg hm hfr hb hB ha hbase ht
      · exact does3_any base g A c ms An cn B kd m s w h hg hm hfr hb hB ha hbase h0 h1 h2

set_option maxHeartbeats 800000 in
theorem great24_any (A : Option Addr) (l c : Nat) (ms : List LM) (B : Nat) (w : World) (hl : ms.length = l) (hb : Cells w B A (memCells ms)) :
    Calls Tryd.prog 7 #[.slice A l c] w fun e w' => ∃ o : Bool, e = .returned (.bool o) ∧ w = w' ∧ (o = false → NarrowM ms) := by
  have HC := Lib.hid hb
  have HFL := Lib.hid (mems_len ms)
  clear hb
  go_enter Tryd.func7, Tryd.ntmps7
  go_wp2
  go_loopg [3] l (fun gk i wr => ∃ k : Nat, k + gk = l ∧ k ≤ 300 ∧ i = .int .i64 k ∧ wr = w ∧ ∀ j f, j < k → ms[j]? = some f → f.nm.size ≤ 200)
  case atStart => exact ⟨0, by omega, by omega, rfl, rfl, fun j f hj => absurd hj (Nat.not_lt_zero _)⟩
  case round =>
    obtain ⟨k, hk, hk3, rfl, rfl, hall⟩ := hrel
    have HA19 := Lib.hid hall
    clear hall
    by_cases h : k < l
    · by_cases h3 : k < 300
      · obtain ⟨f, hx⟩ : ∃ x, ms[k]? = some x := ⟨_, List.getElem?_eq_getElem (by omega)⟩
        obtain ⟨b, o, rfl, hbB, hc⟩ := HC.out (by rw [HFL.out]; omega)
        have c0 := (mem_at hbB hc (Below.refl _ _) hx).c0
        have HX := Lib.hid hx
        have hd3 : decide ((k : Int) < 300) = true := by simp; omega
        have HK3 := Lib.hid h3
        have hw1 : IntKind.i64.wrap ((k : Int) + 1) = (k : Int) + 1 := IntWalk.i64_in _ (by omega)
        clear hc hx h3 hk3
        by_cases hs : 200 < f.nm.size
        · have hd : decide (200 < (f.nm.size : Int)) = true := by simp; omega
          clear hs
          go_wp2
          go_ret
          exact ⟨true, rfl, rfl, fun h => by cases h⟩
        · have hd : decide (200 < (f.nm.size : Int)) = false := by simp; omega
          have HNA : Hid (f.nm.size ≤ 200) := by show _ ≤ _; omega
          clear hs
          go_wp2
          go_roundg (gk - 1)
          case measure => omega
          case rel =>
            have hk3 := HK3.out
            exact ⟨k + 1, by omega, by omega, by go_num, rfl, fun j f' hj hf' => by
            by_cases hjk : j = k
            · subst hjk
              rw [HX.out] at hf'
              injection hf' with hf'
              subst hf'
              exact HNA.out
            · exact HA19.out j f' (by omega) hf'⟩
      · obtain rfl : k = 300 := by omega
        have hl2 : decide (250 < (l : Int)) = true := by simp; omega
        go_wp2
        go_ret
        exact ⟨true, by rw [← hl2]; rfl, rfl, fun h => by cases h⟩
    · obtain rfl : k = l := by omega
      go_wp2
      go_ret
      exact ⟨decide (250 < (k : Int)), rfl, rfl, fun hd => ⟨by simp at hd; omega, fun f hf => by
        obtain ⟨j, hj⟩ := List.mem_iff_getElem?.1 hf
        exact HA19.out j f (by have := (List.getElem?_eq_some_iff.1 hj).1; omega) hj⟩⟩

/-- A call that came in. -/
structure LOp where
  kd : Int
  m : LM
  s : ByteArray
def LOp.cells (o : LOp) : List Value := [.int .i64 o.kd, .string o.m.nm, .int .i64 o.m.at_, .int .i64 o.m.fr, .int .i64 o.m.ar, .int .i64 o.m.sz, .int .u32 o.m.su, .int .i64 o.m.me, .string o.s]
end Go.Proofs.YtjoifgeljjgflaaDoor
