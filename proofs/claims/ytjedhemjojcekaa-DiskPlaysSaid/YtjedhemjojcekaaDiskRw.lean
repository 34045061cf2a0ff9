/- Layer 4, the document's answer: Write. -/
import Derived.Test.YtjedhemjojcekaaDiskRa
import Derived.BigQuiet
namespace Go.Proofs.Ytjedhemjojcekaa
open Go.RowKit
attribute [local go_sem ↓] Go.wp_at_zero Go.wp_at_succ

section
variable {P : Program}
/-- At a step of a region that draws its order: one element, whose block was just made. -/
theorem step_app1n (w : World) {ops : Array Oper} {o : Oper} {a : Act} {K : Act → World → Prop} {Q : Exit → Act → World → Prop} {F : Prop} {t e : TypeId} {z : Value} {size bytes : Nat} (E : Elem P t e z size bytes) (hgd : o.guard = none) (s x : Operand)
    (ho : o.op = .call { callee := .builtin .append, args := #[s, x], argTypes := #[t, t] }) (base : Nat)
    (v : Value) (n : Nat) (xs : List Value) (hs : a.eval s = v) (hown : w.ownsRow base e size v n xs)
    (C : Array Value) (hx : a.eval x = .slice (some ⟨w.heap.size, 0, none⟩) 1 1) (hC : C.size = size) (h1 : ∀ u ∈ C.toList, u.oneCell' = true)
    (h63 : n + 1 ≤ maxLen) (hbytes : (n + 1) * bytes ≤ 140737488355328) (hbase : base ≤ w.heap.size)
    (h : ∀ A' c' w', App w base e size v (n + 1) (xs ++ C.toList) w' (.slice A' (n + 1) c') → K (a.put o.dst (.slice A' (n + 1) c')) w') :
    if Region.wanted o (yielded ops a.tmps) = true then Oper.wp P o a (w.alloc (.cells C e)) K Q else F := by
  refine step_app (w.alloc (.cells C e)) E hgd s x ho base v n xs hs (hown.alloc _) (w.heap.size + 1) (some ⟨w.heap.size, 0, none⟩) 1 1 C.toList hx (by rw [Nat.one_mul]; exact hC) ?_ h1 h63 hbytes (by simp; omega)
    (fun A' c' w' hA => h A' c' w' hA.behind)
  refine fun _ => ⟨_, 0, rfl, Nat.lt_succ_self _, fun j u hu => ?_⟩
  rw [cell_of_row _ _ _ _ _ _ (heap_alloc_new w _)]
  simpa using hu
end

theorem ownS_any {A : Option Addr} {n m c k : Nat} (h : ownS (.slice A n c) k) : ownS (.slice A m c) k := by
  cases A with
  | none => exact h
  | some a => exact h
theorem rS_len {g : Nat} {A1 A2 A3 A4 : Option Addr} {n1 n2 n3 n4 m1 m2 m3 m4 c1 c2 c3 c4 k : Nat} (h : rS g (.slice A1 n1 c1) (.slice A2 n2 c2) (.slice A3 n3 c3) (.slice A4 n4 c4) k) : rS g (.slice A1 m1 c1) (.slice A2 m2 c2) (.slice A3 m3 c3) (.slice A4 m4 c4) k := by
  rcases h with h | h | h | h | h
  · exact .inl h
  · exact rS_1 _ (ownS_any h)
  · exact rS_2 _ (ownS_any h)
  · exact rS_3 _ (ownS_any h)
  · exact rS_4 _ (ownS_any h)
theorem mix_agree {α : Type} (a b : List α) (i : Nat) (h : ∀ j, j < i → a[j]? = b[j]?) : mix a b i = b := by
  unfold mix
  apply List.ext_getElem?
  intro j
  rw [List.getElem?_append, List.length_take]
  by_cases hj : j < i
  · by_cases hl : j < a.length
    · rw [if_pos (by omega), List.getElem?_take, if_pos hj, h j hj]
    · have hb : b.length ≤ j := by
        have := h j hj
        rw [List.getElem?_eq_none (by omega)] at this
        by_cases g : b.length ≤ j
        · exact g
        · rw [List.getElem?_eq_getElem (by omega)] at this; cases this
      rw [if_neg (by omega), List.getElem?_drop, List.getElem?_eq_none (by omega), List.getElem?_eq_none (by omega)]
  · by_cases hl : a.length < i
    · have hb : b.length ≤ a.length := by
        have := h a.length hl
        rw [List.getElem?_eq_none (Nat.le_refl _)] at this
        by_cases g : b.length ≤ a.length
        · exact g
        · rw [List.getElem?_eq_getElem (by omega)] at this; cases this
      rw [if_neg (by omega), List.getElem?_drop, List.getElem?_eq_none (by omega), List.getElem?_eq_none (by omega)]
    · rw [if_neg (by omega), List.getElem?_drop]
      congr 1
      omega
/-- A sector ahead of what is written. -/
theorem sec_before (N bs : List UInt8) (p i : Nat) (hp : p + bs.length ≤ N.length) (h : 512 * i + 512 ≤ p) : secAt i (splice N p bs) = secAt i N := by
  apply List.ext_getElem?
  intro j
  rw [secAt_get, secAt_get]
  by_cases hj : j < 512
  · rw [if_pos hj, if_pos hj, splice_get _ _ _ hp, if_pos (by omega)]
  · rw [if_neg hj, if_neg hj]
theorem cut_bytes {w : World} {B bb oo c o len : Nat} {bs : List UInt8} (h : Cells w B (some ⟨bb, oo, none⟩) (byteCells bs)) (x : Nat) (hx : x + len ≤ bs.length) (ho : o = oo + x) (n : Nat) :
    (convert 25 9 (.slice (some ⟨bb, o, none⟩) len c)).run Try.prog (w.drewN n) = .ok (.string ⟨((bs.drop x).take len).toArray⟩) (w.drewN n) := by
  subst ho
  refine run_string_of (B := B) 25 9 5 Try.underlying25 Try.underlying5 Try.underlying9 ?_ (by simp; omega)
  refine fun hp => ?_
  obtain ⟨b', o', e, hb, hc⟩ := h (by simp [byteCells] at hp ⊢; omega)
  injection e with e
  injection e with e1 e2
  subst e1 e2
  refine ⟨bb, oo + x, rfl, hb, fun j u hj => ?_⟩
  have hj' : (byteCells bs)[x + j]? = some u := by
    simp only [byteCells, List.getElem?_map, List.getElem?_take, List.getElem?_drop] at hj ⊢
    split at hj
    · exact hj
    · cases hj
  have := hc (x + j) u hj'
  rwa [← Nat.add_assoc] at this
theorem str3 (x m : List UInt8) (a b : Nat) (hx : x.length = 512) : (⟨x.toArray⟩ : ByteArray).extract 0 a ++ ⟨m.toArray⟩ ++ (⟨x.toArray⟩ : ByteArray).extract b 512 = ⟨(x.take a ++ (m ++ x.drop b)).toArray⟩ := by
  apply ByteArray.ext
  apply Array.toList_inj.1
  simp [List.take_of_length_le, hx]
theorem str2a (x m : List UInt8) (a : Nat) (hx : x.length = 512) : (⟨x.toArray⟩ : ByteArray).extract 0 a ++ ⟨m.toArray⟩ = ⟨(x.take a ++ (m ++ x.drop 512)).toArray⟩ := by
  apply ByteArray.ext
  apply Array.toList_inj.1
  simp [List.drop_of_length_le, hx]
theorem str2b (x m : List UInt8) (b : Nat) (hx : x.length = 512) : (⟨m.toArray⟩ : ByteArray) ++ (⟨x.toArray⟩ : ByteArray).extract b 512 = ⟨(x.take 0 ++ (m ++ x.drop b)).toArray⟩ := by
  apply ByteArray.ext
  apply Array.toList_inj.1
  simp [List.take_of_length_le, hx]
theorem str1 (x m : List UInt8) (hx : x.length = 512) : (⟨m.toArray⟩ : ByteArray) = ⟨(x.take 0 ++ (m ++ x.drop 512)).toArray⟩ := by
  apply ByteArray.ext
  apply Array.toList_inj.1
  simp [List.drop_of_length_le, hx]
theorem mix_agree2 {α : Type} (a b : List α) (i : Nat) (hl : a.length = b.length) (h : ∀ j, i ≤ j → a[j]? = b[j]?) : mix a b i = a := by
  unfold mix
  apply List.ext_getElem?
  intro j
  rw [List.getElem?_append, List.length_take]
  by_cases hj : j < min i a.length
  · rw [if_pos hj, List.getElem?_take, if_pos (by omega)]
  · rw [if_neg hj, List.getElem?_drop]
    by_cases hb : j < a.length
    · rw [h j (by omega)]
      congr 1
      omega
    · rw [List.getElem?_eq_none (by omega), List.getElem?_eq_none (by omega)]
theorem sec_behind (N bs : List UInt8) (p i : Nat) (hp : p + bs.length ≤ N.length) (h : p + bs.length ≤ 512 * i) : secAt i (splice N p bs) = secAt i N := by
  apply List.ext_getElem?
  intro j
  rw [secAt_get, secAt_get]
  by_cases hj : j < 512
  · rw [if_pos hj, if_pos hj, splice_get _ _ _ hp, if_neg (by omega), if_neg (by omega)]
  · rw [if_neg hj, if_neg hj]
theorem secs_succ (now : List UInt8) (f n : Nat) : secs now f (n + 1) = secs now f n ++ [(f + n, secAt (f + n) now)] := by simp [secs, List.range_succ]
theorem RfB.lt {w : World} {g : Nat} {v1 v2 v3 v4 : Value} (h : RfB w g v1 v2 v3 v4) : g < w.heap.size := (Array.getElem?_eq_some_iff.1 h).1
theorem RfB.alloc {w : World} {g : Nat} {v1 v2 v3 v4 : Value} (h : RfB w g v1 v2 v3 v4) (o : Obj) : RfB (w.alloc o) g v1 v2 v3 v4 := by
  unfold RfB
  rw [Below.heap_alloc w o g h.lt]
  exact h

set_option maxRecDepth 100000 in
set_option maxHeartbeats 2000000 in
theorem rwrite_any (g base : Nat) (S : Nat → Prop) (now safe : List UInt8) (waits : List (Nat × List UInt8)) (A : Option Addr) (n c p : Nat) (bs : List UInt8) (w : World) (h : RfS w g base S now safe waits) (hg : Good now safe waits) (hbase : base ≤ w.heap.size)
    (hw : waits.length ≤ 1099511627776) (hn : bs.length = n) (hn0 : 0 < n) (hcap : n ≤ c) (hk : Kept w S A (byteCells bs)) (hok : okW (p : Int) (n : Int) = true) :
    Calls Try.prog 11 #[.pointer (some ⟨g, 0, none⟩), .int .i64 (p : Int), .slice A n c] w fun e w' => e = .returned (.int .i64 0) ∧ ∃ S', RfS w' g base S' (writeNow now p bs) safe (waits ++ writeWt now p bs) ∧ Mod S w w' ∧ ∀ k, S' k → S k ∨ w.heap.size ≤ k := by
  have hpn : p + n ≤ 2097152 := by simp [okW] at hok; omega
  have HRT := Lib.hid (right_any (p : Int) (n : Int) w (by omega) (by omega) (by omega) (by omega))
  rw [hok] at HRT
  obtain ⟨A1, c1, A2, c2, A3, c3, A4, c4, h, rfl⟩ := h
  obtain ⟨z, hz⟩ : ∃ z, z = now.length / 512 := ⟨_, rfl⟩
  have htop := hg.top
  have hm1 := hg.m1
  have hz512 : 512 * z = now.length := by omega
  have hz6 : z ≤ 4096 := by omega
  have hq1 := need_ge now.length p n hg.m1 hn0
  have hq2 := need_top now.length p n hg.top hpn hn0
  have hqz : z ≤ needV now.length p n := by omega
  obtain ⟨q, hq⟩ : ∃ q, needV now.length p n = q := ⟨_, rfl⟩
  rw [hq] at hq1 hq2 hqz
  rw [← hz] at h hk ⊢
  have hsl : (sectors now).length = z := by rw [sectors_length, hz]
  obtain ⟨S0, hS0⟩ : ∃ S0, S0 = rS g (.slice A1 (sectors now).length c1) (.slice A2 (safes z safe).length c2) (.slice A3 (hass z safe).length c3) (.slice A4 waits.length c4) := ⟨_, rfl⟩
  rw [← hS0] at hk ⊢
  have HS0 := Lib.hid hS0
  have hb := h.blk
  rw [hsl, safes_length, hass_length] at hb
  have HND := Lib.hid (refNeed_any g A1 z c1 _ _ _ p n w hb hz6 hpn)
  rw [hz512, hq] at HND
  have HH := Lib.hid h
  have HG := Lib.hid hg
  have HK := Lib.hid hk
  have HBS := Lib.hid hbase
  have HW := Lib.hid hw
  have HQ := Lib.hid hq
  have HZ := Lib.hid hz
  have HBN := Lib.hid hn
  obtain ⟨k0, k1, k2, k3, f0, f1, f2, f3⟩ := hb.cells
  have hnz : ((n : Int) == 0) = false := by simp; omega
  have HZE := Lib.hid zero_any
  clear h hS0 hg hbase hw hq hz hn hk hb hok hm1 hsl hz512
  go_enter Try.func11, Try.ntmps11
  go_wp2_with (first
    | (go_at_call 20; refine HRT.out.mono ?_; rintro e w' ⟨rfl, rfl⟩)
    | (go_at_call 21; refine HND.out.mono ?_; rintro e w' ⟨rfl, rfl⟩))
  go_loopg [] (q - z) (fun gk wr => ∃ (j : Nat) (B1 B2 B3 : Option Addr) (d1 d2 d3 : Nat), j + gk = q - z ∧ RfL wr g base (sectors now ++ List.replicate j zero512) (safes z safe ++ List.replicate j []) (hass z safe ++ List.replicate j false) waits B1 d1 B2 d2 B3 d3 A4 c4 ∧ Mod S0 w wr ∧
    ∀ k, rS g (.slice B1 (sectors now ++ List.replicate j zero512).length d1) (.slice B2 (safes z safe ++ List.replicate j []).length d2) (.slice B3 (hass z safe ++ List.replicate j false).length d3) (.slice A4 waits.length c4) k → S0 k ∨ w.heap.size ≤ k)
  case atStart => exact ⟨0, A1, A2, A3, c1, c2, c3, by omega, by simpa using HH.out, Mod.refl _ _, fun k hk => .inl (by rw [HS0.out]; simpa using hk)⟩
  case round =>
    clear HH k0 k1 k2 k3 f0 f1 f2 f3
    obtain ⟨j, B1, B2, B3, d1, d2, d3, hj, hr, hmod, hpl⟩ := hrel
    obtain ⟨nw, hnw⟩ : ∃ nw, nw = sectors now ++ List.replicate j zero512 := ⟨_, rfl⟩
    obtain ⟨sf, hsf⟩ : ∃ sf, sf = safes z safe ++ List.replicate j [] := ⟨_, rfl⟩
    obtain ⟨hs, hhs⟩ : ∃ hs, hs = hass z safe ++ List.replicate j false := ⟨_, rfl⟩
    have hl1 : nw.length = z + j := by rw [hnw, List.length_append, sectors_length, List.length_replicate, HZ.out]
    have hl2 : sf.length = z + j := by rw [hsf, List.length_append, safes_length, List.length_replicate]
    have hl3 : hs.length = z + j := by rw [hhs, List.length_append, hass_length, List.length_replicate]
    rw [← hnw, ← hsf, ← hhs] at hr hpl
    have HR := Lib.hid hr
    have HM := Lib.hid hmod
    have HPL := Lib.hid hpl
    have HL1 := Lib.hid hl1
    have HL2 := Lib.hid hl2
    have HL3 := Lib.hid hl3
    have HNW := Lib.hid hnw
    have HSF := Lib.hid hsf
    have HHS := Lib.hid hhs
    have hb := hr.blk
    rw [hl1, hl2, hl3] at hb
    obtain ⟨k0, k1, k2, k3, f0, f1, f2, f3⟩ := hb.cells
    have HBSZ : Hid (base ≤ wr.heap.size) := Nat.le_trans HBS.out hmod.size
    clear hb hr hmod hpl hl1 hl2 hl3 hnw hsf hhs
    by_cases hjq : j < q - z
    · have hlt : ((z + j : Nat) : Int) < (q : Int) := by omega
      go_wp2_with fail
      go_region_law (first
        | (go_simp; go_at_call 22; refine (HZE.out _).mono ?_; rintro e w5 ⟨rfl, hb5⟩; have HR5 := Lib.hid (HR.out.drew.keep (Mod.of_below hb5)); have HM5 := Lib.hid (HM.out.drew.trans (Mod.of_below hb5) (fun _ hk => hk.elim)); have hb5b := HR5.out.blk; rw [HL1.out, HL2.out, HL3.out] at hb5b; obtain ⟨m0, _⟩ := hb5b.cells; have m1 : ∀ o, (w5.alloc o).cell? ⟨g, 0, none⟩ = some (.slice B1 (z + j) d1) := (fun o => (hb5b.alloc o).cells.1); have HS5 := Lib.hid (show wr.heap.size ≤ w5.heap.size from hb5.size); clear hb5 hb5b)
        | (refine step_app1n w5 strElem (by rfl) (.tmp 36) (.tmp 38) (by rfl) base (.slice B1 (z + j) d1) (z + j) (strCells nw) (by rfl) (by have := HR5.out.o1; rwa [HL1.out] at this) #[.string ⟨zero512.toArray⟩] (by rfl) (by rfl) (by simp [Value.oneCell']) (by unfold maxLen; omega) (by omega) (by have := HBSZ.out; have := HS5.out; omega) ?_; intro D1 e1 w7 hA; have HA := Lib.hid hA; clear hA m0 m1; have HB7 : Hid (RfB w7 g (.slice B1 (z + j) d1) (.slice B2 (z + j) d2) (.slice B3 (z + j) d3) (.slice A4 waits.length c4)) := (by have hb := HR5.out.blk; rw [HL1.out, HL2.out, HL3.out] at hb; have hne := HR5.out.ne1; rw [HL1.out] at hne; exact (Mod.of_app HA.out).keep hb hne); obtain ⟨m0, _, _, _, h0, _⟩ := HB7.out.cells))
      all_goals
        have hA1 := HA.out
        rw [← HL1.out] at hA1
        have H7 := Lib.hid (rapp1 HR5.out zero512 hA1)
        rw [HL1.out] at H7
        clear hA1 HA HB7 m0 h0
        generalize w7.setCell ⟨g, 0, none⟩ (.slice D1 (z + j + 1) e1) = w8 at *
        have HR8 := Lib.hid H7.out.1
        have HM8 := Lib.hid H7.out.2.1
        have HP8 := Lib.hid H7.out.2.2
        have hb8 := HR8.out.blk
        have hl8 : (nw ++ [zero512]).length = z + j + 1 := by rw [List.length_append, HL1.out]; rfl
        rw [hl8, HL2.out, HL3.out] at hb8
        obtain ⟨m0, m1, m2, m3, h0, h1, h2, h3⟩ := hb8.cells
        have HL8 := Lib.hid hl8
        have HS8 : Hid (wr.heap.size ≤ w8.heap.size) := Nat.le_trans HS5.out HM8.out.size
        clear hb8 hl8 H7
        go_wp2_with (first
          | (at_builtin; refine wpList_app1 w8 strElem rfl (.tmp 46) (.tmp 47) rfl base (.slice B2 (z + j) d2) (z + j) (strCells sf) rfl (by have := HR8.out.o2; rwa [HL2.out] at this) #[.string ⟨#[]⟩] rfl rfl (by simp [Value.oneCell']) (by unfold maxLen; omega) (by omega) (by have := HBSZ.out; have := HS8.out; omega) ?_; intro D2 e2 w9 hA; clear m0 m1 m2 m3 h0 h1 h2 h3; have hA1 : App w8 base 9 1 (.slice B2 sf.length d2) (sf.length + 1) (strCells sf ++ [.string ⟨([] : List UInt8).toArray⟩]) w9 (.slice D2 (sf.length + 1) e2) := (by rw [HL2.out]; exact hA); have H9 := rapp2 HR8.out [] hA1; rw [HL2.out] at H9; have hb9 := HR8.out.blk; rw [HL8.out, HL2.out, HL3.out] at hb9; have hne := HR8.out.ne2; rw [HL2.out] at hne; obtain ⟨n0, n1, n2, n3, h4, h5, h6, h7⟩ := RfB.cells ((Mod.of_app hA).keep hb9 hne); have HR9 := Lib.hid H9.1; have HM9 := Lib.hid H9.2.1; have HP9 := Lib.hid H9.2.2; have HS9 := Lib.hid (show wr.heap.size ≤ (w9.setCell ⟨g, 1, none⟩ (.slice D2 (z + j + 1) e2)).heap.size from Nat.le_trans HS8.out H9.2.1.size); clear hA hA1 H9 hb9 hne)
          | (at_builtin; go_must (skip; refine wpList_app1 (w9.setCell ⟨g, 1, none⟩ (.slice D2 (z + j + 1) e2)) boolElem rfl (.tmp 55) (.tmp 56) rfl base (.slice B3 (z + j) d3) (z + j) (boolCells hs) rfl (by have := HR9.out.o3; rwa [HL3.out] at this) #[.bool false] (by rw [World.size_setCell]; rfl) rfl (by simp [Value.oneCell']) (by unfold maxLen; omega) (by omega) (by have := HBSZ.out; have := HS9.out; omega) ?_; intro D3 e3 w10 hA; clear n0 n1 n2 n3 h4 h5 h6 h7; have hA1 : App (w9.setCell ⟨g, 1, none⟩ (.slice D2 (z + j + 1) e2)) base 4 1 (.slice B3 hs.length d3) (hs.length + 1) (boolCells hs ++ [.bool false]) w10 (.slice D3 (hs.length + 1) e3) := (by rw [HL3.out]; exact hA); have H10 := Lib.hid (rapp3 HR9.out false hA1); rw [HL3.out] at H10; have hb10 := HR9.out.blk; rw [HL8.out, List.length_append, HL2.out, HL3.out] at hb10; have hne := HR9.out.ne3; rw [HL3.out] at hne; obtain ⟨n0, n1, n2, n3, h4, h5, h6, h7⟩ := RfB.cells ((Mod.of_app hA).keep hb10 hne); clear hA hA1 hb10 hne)))
        go_roundg (gk - 1)
        case measure => omega
        case rel =>
          obtain ⟨r1, r2, r3⟩ := H10.out
          have M8 : Mod S0 w w8 := HM5.out.trans HM8.out (fun k hk => HPL.out k (rS_len hk))
          have P8 : ∀ k, rS g (.slice D1 (nw ++ [zero512]).length e1) (.slice B2 (z + j) d2) (.slice B3 hs.length d3) (.slice A4 waits.length c4) k → S0 k ∨ w.heap.size ≤ k := fun k hk => (HP8.out k (rS_len hk)).elim (fun h => HPL.out k (rS_len h)) (fun h => .inr (Nat.le_trans HM5.out.size h))
          have M9 := M8.trans HM9.out P8
          have P9 : ∀ k, rS g (.slice D1 (nw ++ [zero512]).length e1) (.slice D2 (sf ++ [[]]).length e2) (.slice B3 (z + j) d3) (.slice A4 waits.length c4) k → S0 k ∨ w.heap.size ≤ k := fun k hk => (HP9.out k (rS_len hk)).elim (fun h => P8 k (rS_len h)) (fun h => .inr (Nat.le_trans M8.size h))
          have M10 := M9.trans r2 P9
          refine ⟨j + 1, D1, D2, D3, e1, e2, e3, by omega, ?_, M10, ?_⟩
          · rw [List.replicate_succ', List.replicate_succ', List.replicate_succ', ← List.append_assoc, ← List.append_assoc, ← List.append_assoc, ← HNW.out, ← HSF.out, ← HHS.out]
            exact r1
          · exact fun k hk => (r3 k (rS_len hk)).elim (fun h => P9 k (rS_len h)) (fun h => .inr (Nat.le_trans M9.size h))
    · obtain rfl : j = q - z := by omega
      clear f0 f1 f2 f3
      have hq5 : z + (q - z) = q := by omega
      have hz5 : 512 * z = now.length := by have := HZ.out; have := HG.out.m1; omega
      obtain ⟨N1, hN1⟩ : ∃ N1, N1 = now ++ List.replicate (512 * (q - z)) 0 := ⟨_, rfl⟩
      have e1 : nw = sectors N1 := by rw [HNW.out, hN1, sectors_grow _ _ HG.out.m1]
      have e2 : sf = safes q safe := by rw [HSF.out, ← safes_grow z (q - z) safe (by rw [HZ.out]; exact Nat.div_le_div_right HG.out.le), hq5]
      have e3 : hs = hass q safe := by rw [HHS.out, ← hass_grow z (q - z) safe (by rw [HZ.out]; exact Nat.div_le_div_right HG.out.le), hq5]
      have hN1l : N1.length = 512 * q := by rw [hN1, List.length_append, List.length_replicate]; omega
      obtain ⟨F, hF⟩ : ∃ F, F = writeNow now p bs := ⟨_, rfl⟩
      have hF1 : F = splice N1 p bs := by
        rw [hF, hN1]
        unfold writeNow
        rw [HBN.out, HQ.out, show 512 * q - now.length = 512 * (q - z) by omega]
      have hFl : F.length = 512 * q := by rw [hF1, length_splice _ _ _ (by rw [HBN.out, hN1l]; exact hq1.2.1)]; exact hN1l
      obtain ⟨f, hf⟩ : ∃ f, f = p / 512 := ⟨_, rfl⟩
      obtain ⟨T, hT⟩ : ∃ T, T = (p + n - 1) / 512 + 1 - p / 512 := ⟨_, rfl⟩
      have hfi : (p : Int) / 512 = (f : Int) := by omega
      have HR1 := HR.out
      have HPL1 := HPL.out
      rw [e1, e2, e3] at HR1
      rw [e1, e2, e3] at HPL1
      have HR2 := Lib.hid HR1
      have HP2 := Lib.hid HPL1
      have HE1 := Lib.hid e1
      have HN1 := Lib.hid hN1l
      have HF1 := Lib.hid hF1
      have HFL := Lib.hid hFl
      have HF := Lib.hid hF
      have HT := Lib.hid hT
      have HFI := Lib.hid hf
      have hlt : decide ((z : Int) + ((q - z : Nat) : Int) < (q : Int)) = false := by simp; omega
      clear hf hT hz5 hq5 hN1 e2 e3 e1 hN1l hF1 hFl hF HR HPL HNW HSF HHS HR1 HPL1
      have HKC : Hid (∀ W, Mod S0 w W → Cells W W.heap.size A (byteCells bs)) := fun W hm hp => ((HK.out).step hm (fun _ hj => hj) (fun _ hj => .inl hj)).cells hp
      go_wp2
      go_loopg [8] T (fun gk v wr => ∃ (t i : Nat) (B4 : Option Addr) (d4 : Nat), t + gk = T ∧ i = f + t ∧ v = .int .i64 (i : Int) ∧ RfL wr g base (mix (sectors F) (sectors N1) i) (safes q safe) (hass q safe) (waits ++ secs F f t) B1 d1 B2 d2 B3 d3 B4 d4 ∧ Mod S0 w wr ∧
        ∀ k, rS g (.slice B1 (mix (sectors F) (sectors N1) i).length d1) (.slice B2 (safes q safe).length d2) (.slice B3 (hass q safe).length d3) (.slice B4 (waits ++ secs F f t).length d4) k → S0 k ∨ w.heap.size ≤ k)
      case atStart =>
        have e : mix (sectors F) (sectors N1) f = sectors N1 := mix_agree _ _ _ (fun i hi => by
          have hi2 : i < q := by have := HFI.out; omega
          rw [sectors_get _ _ (by rw [HFL.out]; omega), sectors_get _ _ (by rw [HN1.out]; omega), HF1.out, sec_before N1 bs p i (by rw [HBN.out, HN1.out]; omega) (by have := HFI.out; omega)])
        refine ⟨0, f, A4, c4, by omega, rfl, rfl, ?_, HM.out, ?_⟩
        · rw [e]
          simpa [secs] using HR2.out
        · exact fun k hk => HP2.out k (rS_len hk)
      case round =>
        clear k0 k1 k2 k3 HR2 HP2 HM
        obtain ⟨t, i, B4, d4, ht, hi, rfl, hr, hmod, hpl⟩ := hrel
        have hml : (mix (sectors F) (sectors N1) i).length = q := by rw [mix_length _ _ _ (by rw [sectors_length, sectors_length, HFL.out, HN1.out]), sectors_length, HN1.out]; omega
        have hb := hr.blk
        rw [hml, safes_length, hass_length] at hb
        obtain ⟨k0, k1, k2, k3, f0, f1, f2, f3⟩ := hb.cells
        have HR := Lib.hid hr
        have HM := Lib.hid hmod
        have HPL := Lib.hid hpl
        have HML := Lib.hid hml
        have HI := Lib.hid hi
        clear hb hr hmod hpl hml hi
        by_cases hit : t < T
        · have hiq : i < q := by have := HT.out; have := HFI.out; have := HI.out; omega
          have hip : 512 * i < p + n := by have := HT.out; have := HFI.out; have := HI.out; omega
          have hpi : p < 512 * i + 512 := by have := HFI.out; have := HI.out; omega
          have hx5 : (secAt i N1).length = 512 := secAt_length (by rw [HN1.out]; omega)
          obtain ⟨x, hx⟩ : ∃ x, secAt i N1 = x := ⟨_, rfl⟩
          have hcell : (strCells (mix (sectors F) (sectors N1) i))[i]? = some (.string ⟨x.toArray⟩) := by
            have : (mix (sectors F) (sectors N1) i)[i]? = some x := by
              unfold mix
              rw [List.getElem?_append_right (by rw [List.length_take, sectors_length, HFL.out]; omega), List.length_take, sectors_length, HFL.out, List.getElem?_drop, show i + (i - min i (512 * q / 512)) = i by omega, sectors_get _ _ (by rw [HN1.out]; omega), hx]
            simp [strCells, this]
          have ho1 := HR.out.o1
          rw [HML.out] at ho1
          rcases own_A ho1 with ⟨_, h0, _⟩ | ⟨b1, rfl⟩
          · omega
          have hc1 : q ≤ d1 := own_cap4 ho1
          obtain ⟨q1, r1⟩ := own_cell1 ho1 hcell
          rw [hx] at hx5
          have HX := Lib.hid hx
          obtain ⟨bb, oo, rfl, _, _⟩ := (HKC.out wr HM.out) (by rw [byteCells_length, HBN.out]; exact hn0)
          have HCU := Lib.hid (fun (x len c o : Nat) (h1 : x + len ≤ bs.length) (h2 : o = oo + x) (m : Nat) => cut_bytes (c := c) (o := o) (HKC.out wr HM.out) x h1 h2 m)
          have hxz : x.toArray.size = 512 := by simpa using hx5
          have hncap : n ≤ c := hcap
          clear hcell ho1 hx
          obtain ⟨y, hy0⟩ : ∃ y, secAt i F = y := ⟨_, rfl⟩
          have HY := Lib.hid hy0
          clear hy0
          have hgk : 0 < gk := by omega
          have g0 : (512 * (i : Int) - 512 * (i : Int)) = 0 := by omega
          obtain ⟨y, hy0⟩ : ∃ y, secAt i F = y := ⟨_, rfl⟩
          have HY := Lib.hid hy0
          clear hy0
          have hgk : 0 < gk := by omega
          have g0 : (512 * (i : Int) - 512 * (i : Int)) = 0 := by omega
          obtain ⟨y, hy0⟩ : ∃ y, secAt i F = y := ⟨_, rfl⟩
          have HY := Lib.hid hy0
          clear hy0
          have hgk : 0 < gk := by omega
          have g0 : (512 * (i : Int) - 512 * (i : Int)) = 0 := by omega
          obtain ⟨y, hy0⟩ : ∃ y, secAt i F = y := ⟨_, rfl⟩
          have HY := Lib.hid hy0
          clear hy0
          have hgk : 0 < gk := by omega
          have g0 : (512 * (i : Int) - 512 * (i : Int)) = 0 := by omega
          by_cases ca : 512 * i < p
          · have g1 : ((p : Int) - 512 * (i : Int)) = ((p - 512 * i : Nat) : Int) := by omega
            by_cases cb : p + n < 512 * i + 512
            · have g2 : ((p : Int) + (n : Int) - 512 * (i : Int)) = ((p + n - 512 * i : Nat) : Int) := by omega
              have hcut := fun c m => HCU.out 0 n c oo (by rw [HBN.out]; omega) rfl m
              go_wp2
              go_quiet (fail)
              have hy : x.take (p - 512 * i) ++ ((bs.drop (0)).take (n) ++ x.drop (p + n - 512 * i)) = y := by
                rw [← HX.out, ← HY.out, HF1.out]
                exact (by have := (sec_write N1 bs p i (p - 512 * i) (p + n - 512 * i) (by rw [HBN.out, HN1.out]; omega) (by rw [HN1.out]; omega) (by omega) (by rw [HBN.out]; omega) (by omega) (by rw [HBN.out]; omega) (by omega)); rwa [show 512 * i + (p - 512 * i) - p = 0 by omega, show (p + n - 512 * i) - (p - 512 * i) = n by omega] at this)
              have hstr := (str3 x ((bs.drop (0)).take (n)) (p - 512 * i) (p + n - 512 * i) hx5).trans (by rw [hy])
              simp only [List.drop_zero] at hstr
              rw [hstr]
              have HR3 := Lib.hid (HR.out.keep ((Mod.refl noB wr).drewN nq))
              have HM3 := Lib.hid (HM.out.drewN nq)
              have hsz3 : wr.heap.size ≤ (wr.drewN nq).heap.size := Nat.le_refl _
              clear k0 k1 k2 k3 f0 f1 f2 f3 q1 r1 HR HM HCU hcut hstr hy
              generalize wr.drewN nq = w2 at *
              have hb3 := HR3.out.blk
              rw [HML.out, safes_length, hass_length] at hb3
              obtain ⟨k0, k1, k2, k3, f0, f1, f2, f3⟩ := hb3.cells
              have ho1 := HR3.out.o1
              rw [HML.out] at ho1
              obtain ⟨y1, hy1⟩ := get_lt (bs := strCells (mix (sectors F) (sectors N1) i)) (k := i) (by rw [strCells_length, HML.out]; exact hiq)
              obtain ⟨q1, r1⟩ := own_cell1 ho1 hy1
              have n1 := HR3.out.ne1
              have m1 : ¬ (b1 = g) := fun h => n1 (by rw [← h]; rfl)
              have m1' : ¬ (g = b1) := fun h => m1 h.symm
              obtain ⟨s1, t1⟩ := HR3.out.setNow (i := i) y (by rw [HML.out]; exact hiq)
              have HS1 := Lib.hid s1
              have HT1 := Lib.hid t1
              obtain ⟨L4, hL4⟩ : ∃ L4, L4 = (waits ++ secs F f t).length := ⟨_, rfl⟩
              have HL4 := Lib.hid hL4
              have hLb : L4 ≤ 1099511631872 := by rw [hL4, List.length_append, secs_length]; have := HW.out; have := HT.out; omega
              rw [← hL4] at k3
              have HSB : Hid (base ≤ w2.heap.size) := Nat.le_trans HBS.out HM3.out.size
              clear hb3 ho1 hy1 n1 s1 t1 hL4
              go_wp2_with (at_builtin; refine wpList_app1 (w2.setCell ⟨b1, i, none⟩ (.string ⟨y.toArray⟩)) refWElem rfl (.tmp 136) (.tmp 140) rfl base (.slice B4 L4 d4) L4 (wCells (waits ++ secs F f t)) rfl (by have := HS1.out.o4; rwa [← HL4.out] at this) #[.int .i64 (i : Int), .string ⟨y.toArray⟩] (by rw [World.size_setCell]; rfl) rfl (by simp [Value.oneCell']) (by unfold maxLen; omega) (by omega) (by rw [World.size_setCell]; exact HSB.out) ?_; intro D4 e4 w10 hA; have hA1 : App (w2.setCell ⟨b1, i, none⟩ (.string ⟨y.toArray⟩)) base 54 2 (.slice B4 (waits ++ secs F f t).length d4) ((waits ++ secs F f t).length + 1) (wCells (waits ++ secs F f t) ++ [.int .i64 (i : Int), .string ⟨y.toArray⟩]) w10 (.slice D4 ((waits ++ secs F f t).length + 1) e4) := (by rw [← HL4.out]; exact hA); have H10 := Lib.hid (rapp4 HS1.out (i, y) hA1); rw [← HL4.out] at H10; have hbk := HS1.out.blk; have hne := HS1.out.ne4; rw [← HL4.out] at hne hbk; clear k0 k1 k2 k3 f0 f1 f2 f3 q1 r1; obtain ⟨k0, k1, k2, k3, f0, f1, f2, f3⟩ := RfB.cells ((Mod.of_app hA).keep hbk hne); clear hA hA1 hbk hne)
              go_roundg (gk - 1)
              case measure => omega
              case rel =>
                obtain ⟨r1, r2, r3⟩ := H10.out
                have hyF : (sectors F)[i]? = some y := by rw [sectors_get _ _ (by rw [HFL.out]; omega), HY.out]
                rw [mix_set _ _ _ _ (by rw [sectors_length, sectors_length, HFL.out, HN1.out]) hyF] at r1
                have hw4 : waits ++ secs F f (t + 1) = (waits ++ secs F f t) ++ [(i, y)] := by rw [secs_succ, ← List.append_assoc, ← HI.out, HY.out]
                have M4 : Mod S0 w (w2.setCell ⟨b1, i, none⟩ (.string ⟨y.toArray⟩)) := HM3.out.trans HT1.out (fun k hk => HPL.out k (rS_1 _ (by rw [show k = b1 from hk]; rfl)))
                have P4 : ∀ k, rS g (.slice (some ⟨b1, 0, none⟩) ((mix (sectors F) (sectors N1) i).set i y).length d1) (.slice B2 (safes q safe).length d2) (.slice B3 (hass q safe).length d3) (.slice B4 L4 d4) k → S0 k ∨ w.heap.size ≤ k := fun k hk => HPL.out k (rS_len hk)
                have M5 := M4.trans r2 P4
                refine ⟨t + 1, i + 1, D4, e4, by omega, by have := HI.out; omega, rfl, ?_, M5, ?_⟩
                · rw [hw4]
                  exact r1
                · exact fun k hk => (r3 k (rS_len hk)).elim (fun h => P4 k h) (fun h => .inr (Nat.le_trans M4.size h))
            · have g2 : (512 * (i : Int) + 512 - (p : Int)) = ((512 * i + 512 - p : Nat) : Int) := by omega
              have g3 : (512 * (i : Int) + 512 - 512 * (i : Int)) = 512 := by omega
              have hcut := fun c m => HCU.out 0 (512 * i + 512 - p) c oo (by rw [HBN.out]; omega) rfl m
              go_wp2
              go_quiet (fail)
              have hy : x.take (p - 512 * i) ++ ((bs.drop (0)).take (512 * i + 512 - p) ++ x.drop (512)) = y := by
                rw [← HX.out, ← HY.out, HF1.out]
                exact (by have := (sec_write N1 bs p i (p - 512 * i) (512) (by rw [HBN.out, HN1.out]; omega) (by rw [HN1.out]; omega) (by omega) (by rw [HBN.out]; omega) (by omega) (by rw [HBN.out]; omega) (by omega)); rwa [show 512 * i + (p - 512 * i) - p = 0 by omega, show (512) - (p - 512 * i) = 512 * i + 512 - p by omega] at this)
              have hstr := (str2a x ((bs.drop (0)).take (512 * i + 512 - p)) (p - 512 * i) hx5).trans (by rw [hy])
              simp only [List.drop_zero] at hstr
              rw [hstr]
              have HR3 := Lib.hid (HR.out.keep ((Mod.refl noB wr).drewN nq))
              have HM3 := Lib.hid (HM.out.drewN nq)
              have hsz3 : wr.heap.size ≤ (wr.drewN nq).heap.size := Nat.le_refl _
              clear k0 k1 k2 k3 f0 f1 f2 f3 q1 r1 HR HM HCU hcut hstr hy
              generalize wr.drewN nq = w2 at *
              have hb3 := HR3.out.blk
              rw [HML.out, safes_length, hass_length] at hb3
              obtain ⟨k0, k1, k2, k3, f0, f1, f2, f3⟩ := hb3.cells
              have ho1 := HR3.out.o1
              rw [HML.out] at ho1
              obtain ⟨y1, hy1⟩ := get_lt (bs := strCells (mix (sectors F) (sectors N1) i)) (k := i) (by rw [strCells_length, HML.out]; exact hiq)
              obtain ⟨q1, r1⟩ := own_cell1 ho1 hy1
              have n1 := HR3.out.ne1
              have m1 : ¬ (b1 = g) := fun h => n1 (by rw [← h]; rfl)
              have m1' : ¬ (g = b1) := fun h => m1 h.symm
              obtain ⟨s1, t1⟩ := HR3.out.setNow (i := i) y (by rw [HML.out]; exact hiq)
              have HS1 := Lib.hid s1
              have HT1 := Lib.hid t1
              obtain ⟨L4, hL4⟩ : ∃ L4, L4 = (waits ++ secs F f t).length := ⟨_, rfl⟩
              have HL4 := Lib.hid hL4
              have hLb : L4 ≤ 1099511631872 := by rw [hL4, List.length_append, secs_length]; have := HW.out; have := HT.out; omega
              rw [← hL4] at k3
              have HSB : Hid (base ≤ w2.heap.size) := Nat.le_trans HBS.out HM3.out.size
              clear hb3 ho1 hy1 n1 s1 t1 hL4
              go_wp2_with (at_builtin; refine wpList_app1 (w2.setCell ⟨b1, i, none⟩ (.string ⟨y.toArray⟩)) refWElem rfl (.tmp 136) (.tmp 140) rfl base (.slice B4 L4 d4) L4 (wCells (waits ++ secs F f t)) rfl (by have := HS1.out.o4; rwa [← HL4.out] at this) #[.int .i64 (i : Int), .string ⟨y.toArray⟩] (by rw [World.size_setCell]; rfl) rfl (by simp [Value.oneCell']) (by unfold maxLen; omega) (by omega) (by rw [World.size_setCell]; exact HSB.out) ?_; intro D4 e4 w10 hA; have hA1 : App (w2.setCell ⟨b1, i, none⟩ (.string ⟨y.toArray⟩)) base 54 2 (.slice B4 (waits ++ secs F f t).length d4) ((waits ++ secs F f t).length + 1) (wCells (waits ++ secs F f t) ++ [.int .i64 (i : Int), .string ⟨y.toArray⟩]) w10 (.slice D4 ((waits ++ secs F f t).length + 1) e4) := (by rw [← HL4.out]; exact hA); have H10 := Lib.hid (rapp4 HS1.out (i, y) hA1); rw [← HL4.out] at H10; have hbk := HS1.out.blk; have hne := HS1.out.ne4; rw [← HL4.out] at hne hbk; clear k0 k1 k2 k3 f0 f1 f2 f3 q1 r1; obtain ⟨k0, k1, k2, k3, f0, f1, f2, f3⟩ := RfB.cells ((Mod.of_app hA).keep hbk hne); clear hA hA1 hbk hne)
              go_roundg (gk - 1)
              case measure => omega
              case rel =>
                obtain ⟨r1, r2, r3⟩ := H10.out
                have hyF : (sectors F)[i]? = some y := by rw [sectors_get _ _ (by rw [HFL.out]; omega), HY.out]
                rw [mix_set _ _ _ _ (by rw [sectors_length, sectors_length, HFL.out, HN1.out]) hyF] at r1
                have hw4 : waits ++ secs F f (t + 1) = (waits ++ secs F f t) ++ [(i, y)] := by rw [secs_succ, ← List.append_assoc, ← HI.out, HY.out]
                have M4 : Mod S0 w (w2.setCell ⟨b1, i, none⟩ (.string ⟨y.toArray⟩)) := HM3.out.trans HT1.out (fun k hk => HPL.out k (rS_1 _ (by rw [show k = b1 from hk]; rfl)))
                have P4 : ∀ k, rS g (.slice (some ⟨b1, 0, none⟩) ((mix (sectors F) (sectors N1) i).set i y).length d1) (.slice B2 (safes q safe).length d2) (.slice B3 (hass q safe).length d3) (.slice B4 L4 d4) k → S0 k ∨ w.heap.size ≤ k := fun k hk => HPL.out k (rS_len hk)
                have M5 := M4.trans r2 P4
                refine ⟨t + 1, i + 1, D4, e4, by omega, by have := HI.out; omega, rfl, ?_, M5, ?_⟩
                · rw [hw4]
                  exact r1
                · exact fun k hk => (r3 k (rS_len hk)).elim (fun h => P4 k h) (fun h => .inr (Nat.le_trans M4.size h))
          · have g1 : (512 * (i : Int) - (p : Int)) = ((512 * i - p : Nat) : Int) := by omega
            by_cases cb : p + n < 512 * i + 512
            · have g2 : ((p : Int) + (n : Int) - 512 * (i : Int)) = ((p + n - 512 * i : Nat) : Int) := by omega
              have g3 : ((p : Int) + (n : Int) - (p : Int)) = (n : Int) := by omega
              have hcut := fun c m => HCU.out (512 * i - p) (n - (512 * i - p)) c (oo + (512 * i - p)) (by rw [HBN.out]; omega) rfl m
              go_wp2
              go_quiet (fail)
              have hy : x.take (0) ++ ((bs.drop (512 * i - p)).take (n - (512 * i - p)) ++ x.drop (p + n - 512 * i)) = y := by
                rw [← HX.out, ← HY.out, HF1.out]
                exact (by have := (sec_write N1 bs p i (0) (p + n - 512 * i) (by rw [HBN.out, HN1.out]; omega) (by rw [HN1.out]; omega) (by omega) (by rw [HBN.out]; omega) (by omega) (by rw [HBN.out]; omega) (by omega)); rwa [show 512 * i + (0) - p = 512 * i - p by omega, show (p + n - 512 * i) - (0) = n - (512 * i - p) by omega] at this)
              have hstr := (str2b x ((bs.drop (512 * i - p)).take (n - (512 * i - p))) (p + n - 512 * i) hx5).trans (by rw [hy])
              skip
              rw [hstr]
              have HR3 := Lib.hid (HR.out.keep ((Mod.refl noB wr).drewN nq))
              have HM3 := Lib.hid (HM.out.drewN nq)
              have hsz3 : wr.heap.size ≤ (wr.drewN nq).heap.size := Nat.le_refl _
              clear k0 k1 k2 k3 f0 f1 f2 f3 q1 r1 HR HM HCU hcut hstr hy
              generalize wr.drewN nq = w2 at *
              have hb3 := HR3.out.blk
              rw [HML.out, safes_length, hass_length] at hb3
              obtain ⟨k0, k1, k2, k3, f0, f1, f2, f3⟩ := hb3.cells
              have ho1 := HR3.out.o1
              rw [HML.out] at ho1
              obtain ⟨y1, hy1⟩ := get_lt (bs := strCells (mix (sectors F) (sectors N1) i)) (k := i) (by rw [strCells_length, HML.out]; exact hiq)
              obtain ⟨q1, r1⟩ := own_cell1 ho1 hy1
              have n1 := HR3.out.ne1
              have m1 : ¬ (b1 = g) := fun h => n1 (by rw [← h]; rfl)
              have m1' : ¬ (g = b1) := fun h => m1 h.symm
              obtain ⟨s1, t1⟩ := HR3.out.setNow (i := i) y (by rw [HML.out]; exact hiq)
              have HS1 := Lib.hid s1
              have HT1 := Lib.hid t1
              obtain ⟨L4, hL4⟩ : ∃ L4, L4 = (waits ++ secs F f t).length := ⟨_, rfl⟩
              have HL4 := Lib.hid hL4
              have hLb : L4 ≤ 1099511631872 := by rw [hL4, List.length_append, secs_length]; have := HW.out; have := HT.out; omega
              rw [← hL4] at k3
              have HSB : Hid (base ≤ w2.heap.size) := Nat.le_trans HBS.out HM3.out.size
              clear hb3 ho1 hy1 n1 s1 t1 hL4
              go_wp2_with (at_builtin; refine wpList_app1 (w2.setCell ⟨b1, i, none⟩ (.string ⟨y.toArray⟩)) refWElem rfl (.tmp 136) (.tmp 140) rfl base (.slice B4 L4 d4) L4 (wCells (waits ++ secs F f t)) rfl (by have := HS1.out.o4; rwa [← HL4.out] at this) #[.int .i64 (i : Int), .string ⟨y.toArray⟩] (by rw [World.size_setCell]; rfl) rfl (by simp [Value.oneCell']) (by unfold maxLen; omega) (by omega) (by rw [World.size_setCell]; exact HSB.out) ?_; intro D4 e4 w10 hA; have hA1 : App (w2.setCell ⟨b1, i, none⟩ (.string ⟨y.toArray⟩)) base 54 2 (.slice B4 (waits ++ secs F f t).length d4) ((waits ++ secs F f t).length + 1) (wCells (waits ++ secs F f t) ++ [.int .i64 (i : Int), .string ⟨y.toArray⟩]) w10 (.slice D4 ((waits ++ secs F f t).length + 1) e4) := (by rw [← HL4.out]; exact hA); have H10 := Lib.hid (rapp4 HS1.out (i, y) hA1); rw [← HL4.out] at H10; have hbk := HS1.out.blk; have hne := HS1.out.ne4; rw [← HL4.out] at hne hbk; clear k0 k1 k2 k3 f0 f1 f2 f3 q1 r1; obtain ⟨k0, k1, k2, k3, f0, f1, f2, f3⟩ := RfB.cells ((Mod.of_app hA).keep hbk hne); clear hA hA1 hbk hne)
              go_roundg (gk - 1)
              case measure => omega
              case rel =>
                obtain ⟨r1, r2, r3⟩ := H10.out
                have hyF : (sectors F)[i]? = some y := by rw [sectors_get _ _ (by rw [HFL.out]; omega), HY.out]
                rw [mix_set _ _ _ _ (by rw [sectors_length, sectors_length, HFL.out, HN1.out]) hyF] at r1
                have hw4 : waits ++ secs F f (t + 1) = (waits ++ secs F f t) ++ [(i, y)] := by rw [secs_succ, ← List.append_assoc, ← HI.out, HY.out]
                have M4 : Mod S0 w (w2.setCell ⟨b1, i, none⟩ (.string ⟨y.toArray⟩)) := HM3.out.trans HT1.out (fun k hk => HPL.out k (rS_1 _ (by rw [show k = b1 from hk]; rfl)))
                have P4 : ∀ k, rS g (.slice (some ⟨b1, 0, none⟩) ((mix (sectors F) (sectors N1) i).set i y).length d1) (.slice B2 (safes q safe).length d2) (.slice B3 (hass q safe).length d3) (.slice B4 L4 d4) k → S0 k ∨ w.heap.size ≤ k := fun k hk => HPL.out k (rS_len hk)
                have M5 := M4.trans r2 P4
                refine ⟨t + 1, i + 1, D4, e4, by omega, by have := HI.out; omega, rfl, ?_, M5, ?_⟩
                · rw [hw4]
                  exact r1
                · exact fun k hk => (r3 k (rS_len hk)).elim (fun h => P4 k h) (fun h => .inr (Nat.le_trans M4.size h))
            · have g2 : (512 * (i : Int) + 512 - (p : Int)) = ((512 * i + 512 - p : Nat) : Int) := by omega
              have g3 : (512 * (i : Int) + 512 - 512 * (i : Int)) = 512 := by omega
              have hcut := fun c m => HCU.out (512 * i - p) (512 * i + 512 - p - (512 * i - p)) c (oo + (512 * i - p)) (by rw [HBN.out]; omega) rfl m
              go_wp2
              go_quiet (fail)
              have hy : x.take (0) ++ ((bs.drop (512 * i - p)).take (512 * i + 512 - p - (512 * i - p)) ++ x.drop (512)) = y := by
                rw [← HX.out, ← HY.out, HF1.out]
                exact (by have := (sec_write N1 bs p i (0) (512) (by rw [HBN.out, HN1.out]; omega) (by rw [HN1.out]; omega) (by omega) (by rw [HBN.out]; omega) (by omega) (by rw [HBN.out]; omega) (by omega)); rwa [show 512 * i + (0) - p = 512 * i - p by omega, show (512) - (0) = 512 * i + 512 - p - (512 * i - p) by omega] at this)
              have hstr := (str1 x ((bs.drop (512 * i - p)).take (512 * i + 512 - p - (512 * i - p))) hx5).trans (by rw [hy])
              skip
              rw [hstr]
              have HR3 := Lib.hid (HR.out.keep ((Mod.refl noB wr).drewN nq))
              have HM3 := Lib.hid (HM.out.drewN nq)
              have hsz3 : wr.heap.size ≤ (wr.drewN nq).heap.size := Nat.le_refl _
              clear k0 k1 k2 k3 f0 f1 f2 f3 q1 r1 HR HM HCU hcut hstr hy
              generalize wr.drewN nq = w2 at *
              have hb3 := HR3.out.blk
              rw [HML.out, safes_length, hass_length] at hb3
              obtain ⟨k0, k1, k2, k3, f0, f1, f2, f3⟩ := hb3.cells
              have ho1 := HR3.out.o1
              rw [HML.out] at ho1
              obtain ⟨y1, hy1⟩ := get_lt (bs := strCells (mix (sectors F) (sectors N1) i)) (k := i) (by rw [strCells_length, HML.out]; exact hiq)
              obtain ⟨q1, r1⟩ := own_cell1 ho1 hy1
              have n1 := HR3.out.ne1
              have m1 : ¬ (b1 = g) := fun h => n1 (by rw [← h]; rfl)
              have m1' : ¬ (g = b1) := fun h => m1 h.symm
              obtain ⟨s1, t1⟩ := HR3.out.setNow (i := i) y (by rw [HML.out]; exact hiq)
              have HS1 := Lib.hid s1
              have HT1 := Lib.hid t1
              obtain ⟨L4, hL4⟩ : ∃ L4, L4 = (waits ++ secs F f t).length := ⟨_, rfl⟩
              have HL4 := Lib.hid hL4
              have hLb : L4 ≤ 1099511631872 := by rw [hL4, List.length_append, secs_length]; have := HW.out; have := HT.out; omega
              rw [← hL4] at k3
              have HSB : Hid (base ≤ w2.heap.size) := Nat.le_trans HBS.out HM3.out.size
              clear hb3 ho1 hy1 n1 s1 t1 hL4
              go_wp2_with (at_builtin; refine wpList_app1 (w2.setCell ⟨b1, i, none⟩ (.string ⟨y.toArray⟩)) refWElem rfl (.tmp 136) (.tmp 140) rfl base (.slice B4 L4 d4) L4 (wCells (waits ++ secs F f t)) rfl (by have := HS1.out.o4; rwa [← HL4.out] at this) #[.int .i64 (i : Int), .string ⟨y.toArray⟩] (by rw [World.size_setCell]; rfl) rfl (by simp [Value.oneCell']) (by unfold maxLen; omega) (by omega) (by rw [World.size_setCell]; exact HSB.out) ?_; intro D4 e4 w10 hA; have hA1 : App (w2.setCell ⟨b1, i, none⟩ (.string ⟨y.toArray⟩)) base 54 2 (.slice B4 (waits ++ secs F f t).length d4) ((waits ++ secs F f t).length + 1) (wCells (waits ++ secs F f t) ++ [.int .i64 (i : Int), .string ⟨y.toArray⟩]) w10 (.slice D4 ((waits ++ secs F f t).length + 1) e4) := (by rw [← HL4.out]; exact hA); have H10 := Lib.hid (rapp4 HS1.out (i, y) hA1); rw [← HL4.out] at H10; have hbk := HS1.out.blk; have hne := HS1.out.ne4; rw [← HL4.out] at hne hbk; clear k0 k1 k2 k3 f0 f1 f2 f3 q1 r1; obtain ⟨k0, k1, k2, k3, f0, f1, f2, f3⟩ := RfB.cells ((Mod.of_app hA).keep hbk hne); clear hA hA1 hbk hne)
              go_roundg (gk - 1)
              case measure => omega
              case rel =>
                obtain ⟨r1, r2, r3⟩ := H10.out
                have hyF : (sectors F)[i]? = some y := by rw [sectors_get _ _ (by rw [HFL.out]; omega), HY.out]
                rw [mix_set _ _ _ _ (by rw [sectors_length, sectors_length, HFL.out, HN1.out]) hyF] at r1
                have hw4 : waits ++ secs F f (t + 1) = (waits ++ secs F f t) ++ [(i, y)] := by rw [secs_succ, ← List.append_assoc, ← HI.out, HY.out]
                have M4 : Mod S0 w (w2.setCell ⟨b1, i, none⟩ (.string ⟨y.toArray⟩)) := HM3.out.trans HT1.out (fun k hk => HPL.out k (rS_1 _ (by rw [show k = b1 from hk]; rfl)))
                have P4 : ∀ k, rS g (.slice (some ⟨b1, 0, none⟩) ((mix (sectors F) (sectors N1) i).set i y).length d1) (.slice B2 (safes q safe).length d2) (.slice B3 (hass q safe).length d3) (.slice B4 L4 d4) k → S0 k ∨ w.heap.size ≤ k := fun k hk => HPL.out k (rS_len hk)
                have M5 := M4.trans r2 P4
                refine ⟨t + 1, i + 1, D4, e4, by omega, by have := HI.out; omega, rfl, ?_, M5, ?_⟩
                · rw [hw4]
                  exact r1
                · exact fun k hk => (r3 k (rS_len hk)).elim (fun h => P4 k h) (fun h => .inr (Nat.le_trans M4.size h))
        · obtain rfl : t = T := by omega
          have hpT : p + n ≤ 512 * i := by have := HT.out; have := HFI.out; have := HI.out; omega
          have e : mix (sectors F) (sectors N1) i = sectors F := mix_agree2 _ _ _ (by rw [sectors_length, sectors_length, HFL.out, HN1.out]) (fun j hj => by
            by_cases hjq : j < q
            · rw [sectors_get _ _ (by rw [HFL.out]; omega), sectors_get _ _ (by rw [HN1.out]; omega), HF1.out, sec_behind N1 bs p j (by rw [HBN.out, HN1.out]; omega) (by rw [HBN.out]; omega)]
            · rw [List.getElem?_eq_none (by rw [sectors_length, HFL.out]; omega), List.getElem?_eq_none (by rw [sectors_length, HN1.out]; omega)])
          have hwt : waits ++ secs F f t = waits ++ writeWt now p bs := by
            unfold writeWt
            rw [HBN.out, ← HF.out, ← HFI.out, HT.out, HFI.out]
          have hr := HR.out
          rw [e, hwt] at hr
          have hpl := HPL.out
          rw [e, hwt] at hpl
          have hFq : q = F.length / 512 := by rw [HFL.out]; omega
          have HRS := Lib.hid (RfS.ofL (S := rS g (.slice B1 (sectors F).length d1) (.slice B2 (safes q safe).length d2) (.slice B3 (hass q safe).length d3) (.slice B4 (waits ++ writeWt now p bs).length d4)) hr hFq rfl)
          have HPX := Lib.hid hpl
          rw [HF.out] at HRS
          clear hr hpl e hwt hFq
          by_cases hiq : i < q
          · have c1' : decide (512 * (i : Int) < (p : Int) + (n : Int)) = false := by simp; omega
            have c2' : decide ((i : Int) < (q : Int)) = true := by simp; omega
            go_wp2
            go_ret
            exact ⟨rfl, _, HRS.out, HM.out, by rw [← HF.out]; exact HPX.out⟩
          · have c2' : decide ((i : Int) < (q : Int)) = false := by simp; omega
            go_wp2
            go_ret
            exact ⟨rfl, _, HRS.out, HM.out, by rw [← HF.out]; exact HPX.out⟩
end Go.Proofs.Ytjedhemjojcekaa
