/- Layer 33: a summary is like itself. -/
import Derived.Test.YtkgkefifcpneiaaDoorReSu
import Derived.Laws.StructEq
namespace Go.Proofs.YtkgkefifcpneiaaDoor
open Go.RowKit

theorem part_int (xs : Array Value) (i : Nat) (n : Int) (h : xs[i]? = some (.int .i64 n)) (w : World) : (part 3 xs i).run Tryd.prog w = .ok (.int .i64 n) w := by
  unfold part
  simp only [Sem.run_bind, Tryd.isAgg3, Result.andThen_ok, Bool.false_eq_true, if_false, h, Sem.run_pure]
theorem eq_ints (d : Nat) (t len : Nat) (hu : Tryd.prog.underlying t = some (.array len 3)) (xs : Array Value) (hx : ∀ i, i < len → ∃ n, xs[i]? = some (.int .i64 n)) (w : World) :
    (Op.equalIn (d + 2) t (.agg xs) (.agg xs)).run Tryd.prog w = .ok true w := by
  rw [Op.equalIn]
  simp only [Sem.run_bind, run_underlying hu, Result.andThen_ok, Tryd.sizeOf3]
  simp only [Std.Legacy.Range.forIn_eq_forIn_range', Std.Legacy.Range.size, Nat.sub_zero, Nat.add_sub_cancel, Nat.div_one]
  have key : ∀ l : List Nat, (∀ i ∈ l, i < len) → (forIn l ((none : Option Bool), ()) (fun i __s => do
            let __do_lift ← part 3 xs (i * 1)
            let __do_lift_1 ← part 3 xs (i * 1)
            let __do_lift ← Op.equalIn (d + 1) 3 __do_lift __do_lift_1
            if (!__do_lift) = true then pure (ForInStep.done (some false, ())) else pure (ForInStep.yield (none, ())))).run Tryd.prog w = .ok (none, ()) w := by
    intro l
    induction l with
    | nil => intro _; simp
    | cons i l ih =>
      intro hl
      obtain ⟨n, hn⟩ := hx i (hl i (by simp))
      simp only [List.forIn_cons, Nat.mul_one, Sem.run_bind, part_int xs i n hn, Result.andThen_ok, run_equalIn_int w d 3 .i64 .i64 n n Tryd.underlying3, BEq.rfl, Bool.not_true, Bool.false_eq_true, if_false, Sem.run_pure]
      have := ih (fun j hj => hl j (by simp [hj]))
      simp only [Nat.mul_one] at this
      exact this
  have k2 := key (List.range' 0 len) (fun i hi => by simpa [List.mem_range'] using hi)
  simp only [Nat.mul_one] at k2 ⊢
  rw [k2]
  simp
theorem part_row (t n : Nat) (ha : ∀ w, (isAgg t).run Tryd.prog w = .ok true w) (hz : ∀ w, (sizeOf t).run Tryd.prog w = .ok n w) (xs : Array Value) (i : Nat) (w : World) : (part t xs i).run Tryd.prog w = .ok (.agg (xs.extract i (i + n))) w := by
  unfold part
  simp only [Sem.run_bind, ha, hz, Result.andThen_ok, if_true, Sem.run_pure]
theorem sm_at {l : Nat} {s : Sm} {i : Nat} (hi : i < (smCells l s).length) : ∃ n, (smCells l s).toArray[i]? = some (.int .i64 n) := by
  have h2 : (smCells l s).toArray[i]? = (smCells l s)[i]? := by simp
  rw [h2, List.getElem?_eq_getElem hi]
  have := List.getElem_mem hi
  generalize (smCells l s)[i] = v at *
  unfold smCells at this
  simp only [List.mem_append, List.mem_cons, List.not_mem_nil, or_false, List.mem_map] at this
  rcases this with (rfl | rfl | rfl | rfl) | ⟨x, _, rfl⟩ | ⟨x, _, rfl⟩ <;> exact ⟨_, rfl⟩
theorem sm_eq {l m : Nat} {s : Sm} (h : s.Ok m) (w : World) : (Op.equalIn 10000 55 (.agg (smCells l s).toArray) (.agg (smCells l s).toArray)).run Tryd.prog w = .ok true w := by
  have hS : Tryd.prog.underlying 55 = some (.struct (Tryd.prog.fieldsOf 55)) := by kernel_rfl
  have hz := sm_size (n := l) h
  have hlen : (smCells l s).length = 40 := by simpa using hz
  have hat := fun i (hi : i < 40) => sm_at (l := l) (s := s) (i := i) (by omega)
  rw [show (10000 : Nat) = 9999 + 1 from rfl, run_equalIn_agg w 9999 55 _ _ hS (by kernel_rfl)]
  simp only [Program.fieldsOf, Tryd.underlying55]
  generalize (smCells l s).toArray = xs at *
  obtain ⟨n0, h0⟩ := hat 0 (by omega)
  obtain ⟨n1, h1⟩ := hat 1 (by omega)
  obtain ⟨n2, h2⟩ := hat 2 (by omega)
  obtain ⟨n3, h3⟩ := hat 3 (by omega)
  have e1 := fun d => eq_ints d 52 19 Tryd.underlying52 (xs.extract 4 23) (fun i hi => by
    obtain ⟨n, hn⟩ := hat (4 + i) (by omega)
    exact ⟨n, by rw [Array.getElem?_extract, if_pos (by omega)]; exact hn⟩) w
  have e2 := fun d => eq_ints d 53 17 Tryd.underlying53 (xs.extract 23 40) (fun i hi => by
    obtain ⟨n, hn⟩ := hat (23 + i) (by omega)
    exact ⟨n, by rw [Array.getElem?_extract, if_pos (by omega)]; exact hn⟩) w
  have ei := fun (n : Int) => run_equalIn_int w 9998 3 .i64 .i64 n n Tryd.underlying3
  simp only [Op.eqFields, ne_eq, String.reduceEq, not_false_eq_true, if_true, Sem.run_bind, part_int xs 0 n0 h0, part_int xs 1 n1 h1, part_int xs 2 n2 h2, part_int xs 3 n3 h3, ei, part_row 52 19 Tryd.isAgg52 Tryd.sizeOf52, part_row 53 17 Tryd.isAgg53 Tryd.sizeOf53, e1 9997, e2 9997, Result.andThen_ok, BEq.rfl, Bool.not_true, Bool.false_eq_true, if_false, Sem.run_pure, Nat.reduceAdd]
end Go.Proofs.YtkgkefifcpneiaaDoor
