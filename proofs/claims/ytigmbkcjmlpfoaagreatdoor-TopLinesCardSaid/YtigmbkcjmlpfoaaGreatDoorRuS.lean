/- Contracts of package rule: isFirst, isInName, Name; rise, with slices.IsSorted at two to four numbers. -/
import Derived.Test.YtigmbkcjmlpfoaaGreatDoorRl
import Derived.Test.YtigmbkcjmlpfoaaGreatDoorMd
namespace Go.Proofs.YtigmbkcjmlpfoaaGreatDoor
open Go.RowKit
theorem first_yes {c : UInt8} (h : (97 ≤ (c.toNat : Int) ∧ (c.toNat : Int) ≤ 122) ∨ (65 ≤ (c.toNat : Int) ∧ (c.toNat : Int) ≤ 90) ∨ (c.toNat : Int) = 95) : true = Rl.first c := by
  symm
  unfold Rl.first
  rw [decide_eq_true_eq]
  omega
theorem first_no {c : UInt8} (h : ¬ ((97 ≤ (c.toNat : Int) ∧ (c.toNat : Int) ≤ 122) ∨ (65 ≤ (c.toNat : Int) ∧ (c.toNat : Int) ≤ 90) ∨ (c.toNat : Int) = 95)) : false = Rl.first c := by
  symm
  unfold Rl.first
  rw [decide_eq_false_iff_not]
  omega
theorem isFirst_any (c : UInt8) (w : World) : Calls Tryz.prog 37 #[.int .u8 (c.toNat : Int)] w fun e w' => e = .returned (.bool (Rl.first c)) ∧ w = w' := by
  have hb := c.toNat_lt
  by_cases e1 : c.toNat = 95
  · obtain rfl : c = 95 := UInt8.toNat_inj.1 e1
    clear hb e1
    go_enter Tryz.func37, Tryz.ntmps37
    go_wp2_with fail
    go_ret
    exact ⟨rfl, rfl⟩
  · have t1 : ((c.toNat : Int) == 95) = false := by rw [beq_eq_false_iff_ne]; omega
    have E1 := Lib.hid e1
    clear e1
    go_enter Tryz.func37, Tryz.ntmps37
    go_wp2_with fail
    all_goals
      go_ret
      have h1 := E1.out
      exact ⟨ret_bool (by first | exact first_yes (by omega) | exact first_no (by omega) | (unfold Rl.first; rw [Bool.eq_iff_iff]; simp only [Bool.or_eq_true, decide_eq_true_eq]; omega)), rfl⟩
theorem isFirst_is (c : UInt8) (v : Bool) (w : World) (h : Rl.first c = v) : Calls Tryz.prog 37 #[.int .u8 (c.toNat : Int)] w fun e w' => e = .returned (.bool v) ∧ w = w' := by
  subst h
  exact isFirst_any c w
theorem inn_first {c : UInt8} (h : Rl.first c = true) : true = Rl.inn c := by
  have := of_decide_eq_true h
  symm
  unfold Rl.inn
  rw [decide_eq_true_eq]
  omega
theorem inn_yes {c : UInt8} (h : 48 ≤ (c.toNat : Int) ∧ (c.toNat : Int) ≤ 57) : true = Rl.inn c := by
  symm
  unfold Rl.inn
  rw [decide_eq_true_eq]
  omega
theorem inn_no {c : UInt8} (h : Rl.first c = false) (h1 : ¬ (48 ≤ (c.toNat : Int) ∧ (c.toNat : Int) ≤ 57)) (h2 : c.toNat ≠ 43) (h3 : c.toNat ≠ 45) (h4 : c.toNat ≠ 47) : false = Rl.inn c := by
  have := of_decide_eq_false h
  symm
  unfold Rl.inn
  rw [decide_eq_false_iff_not]
  omega
theorem isInName_any (c : UInt8) (w : World) : Calls Tryz.prog 38 #[.int .u8 (c.toNat : Int)] w fun e w' => e = .returned (.bool (Rl.inn c)) ∧ w = w' := by
  have hb := c.toNat_lt
  cases hd : Rl.first c with
  | true =>
    have HD := Lib.hid hd
    clear hd hb
    go_enter Tryz.func38, Tryz.ntmps38
    go_wp2_with fail
    refine (isFirst_is c true _ HD.out).mono ?_
    rintro e w' ⟨rfl, rfl⟩
    go_wp2_with fail
    go_ret
    exact ⟨ret_bool (inn_first HD.out), rfl⟩
  | false =>
    have HD := Lib.hid hd
    clear hd
    by_cases e43 : c.toNat = 43
    · obtain rfl : c = 43 := UInt8.toNat_inj.1 e43
      clear hb e43
      go_enter Tryz.func38, Tryz.ntmps38
      go_wp2_with fail
      refine (isFirst_is 43 false _ HD.out).mono ?_
      rintro e w' ⟨rfl, rfl⟩
      go_wp2_with fail
      go_ret
      exact ⟨rfl, rfl⟩
    by_cases e45 : c.toNat = 45
    · obtain rfl : c = 45 := UInt8.toNat_inj.1 e45
      clear hb e45
      go_enter Tryz.func38, Tryz.ntmps38
      go_wp2_with fail
      refine (isFirst_is 45 false _ HD.out).mono ?_
      rintro e w' ⟨rfl, rfl⟩
      go_wp2_with fail
      go_ret
      exact ⟨rfl, rfl⟩
    by_cases e47 : c.toNat = 47
    · obtain rfl : c = 47 := UInt8.toNat_inj.1 e47
      clear hb e47
      go_enter Tryz.func38, Tryz.ntmps38
      go_wp2_with fail
      refine (isFirst_is 47 false _ HD.out).mono ?_
      rintro e w' ⟨rfl, rfl⟩
      go_wp2_with fail
      go_ret
      exact ⟨rfl, rfl⟩
    have t43 : ((c.toNat : Int) == 43) = false := by rw [beq_eq_false_iff_ne]; omega
    have E43 := Lib.hid e43
    have t45 : ((c.toNat : Int) == 45) = false := by rw [beq_eq_false_iff_ne]; omega
    have E45 := Lib.hid e45
    have t47 : ((c.toNat : Int) == 47) = false := by rw [beq_eq_false_iff_ne]; omega
    have E47 := Lib.hid e47
    clear e43 e45 e47
    go_enter Tryz.func38, Tryz.ntmps38
    go_wp2_with fail
    refine (isFirst_is c false _ HD.out).mono ?_
    rintro e w' ⟨rfl, rfl⟩
    go_wp2_with fail
    all_goals
      go_ret
      have hd := of_decide_eq_false HD.out
      have h43 := E43.out
      have h45 := E45.out
      have h47 := E47.out
      exact ⟨ret_bool (by first | exact inn_yes (by omega) | exact inn_no HD.out (by omega) h43 h45 h47 | (unfold Rl.inn; rw [Bool.eq_iff_iff]; simp only [decide_eq_true_eq]; omega)), rfl⟩
theorem isInName_is (c : UInt8) (v : Bool) (w : World) (h : Rl.inn c = v) : Calls Tryz.prog 38 #[.int .u8 (c.toNat : Int)] w fun e w' => e = .returned (.bool v) ∧ w = w' := by
  subst h
  exact isInName_any c w
theorem name_head {s : ByteArray} (h : 0 < s.size) : s.data.toList.take 1 = [s[0]] := by
  have := take_snoc s 0 h
  simpa using this
theorem inn_stop {s : ByteArray} {k : Nat} (h : k < s.size) (hc : Rl.inn s[k] = false) : s.data.toList.all Rl.inn = false := by
  rw [List.all_eq_false]
  refine ⟨s[k], ?_, by rw [hc]; simp⟩
  have : s.data.toList[k]? = some s[k] := Lib.data_getElem? s k h
  exact List.mem_of_getElem? this
theorem name_size {s : ByteArray} (h : ¬ (1 ≤ s.size ∧ s.size ≤ 64)) : false = Rl.name s.data.toList := by
  have hz : s.data.toList.length = s.size := by simp
  unfold Rl.name
  rw [hz, show decide (1 ≤ s.size ∧ s.size ≤ 64) = false from decide_eq_false h]
  rfl
theorem name_in {s : ByteArray} (h1 : 1 ≤ s.size) (h2 : s.size ≤ 64) : Rl.name s.data.toList = (Rl.first s[0] && s.data.toList.all Rl.inn) := by
  have hz : s.data.toList.length = s.size := by simp
  unfold Rl.name
  rw [hz, name_head (by omega), show decide (1 ≤ s.size ∧ s.size ≤ 64) = true from decide_eq_true ⟨h1, h2⟩]
  simp
set_option maxHeartbeats 1000000 in
theorem rname_any (s : ByteArray) (w : World) (hs : s.size ≤ 9223372036854775807) : Calls Tryz.prog 20 #[.string s] w fun e w' => e = .returned (.bool (Rl.name s.data.toList)) ∧ w = w' := by
  by_cases h1 : 1 ≤ s.size
  · by_cases h2 : s.size ≤ 64
    · have hi0 : ∀ W, (Instr.index 9 (.string s) (.int .i64 0)).run Tryz.prog W = .ok (.int .u8 (s[0].toNat : Int)) W := fun W => by simpa using idx_any s .i64 0 (by omega) W
      have hn := name_in h1 h2
      cases hf : Rl.first s[0] with
      | false =>
        have HE := Lib.hid (show false = Rl.name s.data.toList by rw [hn, hf]; rfl)
        have HF := Lib.hid hf
        clear hn hf
        generalize s[0] = c at *
        go_enter Tryz.func20, Tryz.ntmps20
        go_wp2_with fail
        refine (isFirst_is c false _ HF.out).mono ?_
        rintro e w' ⟨rfl, rfl⟩
        go_wp2_with fail
        go_ret
        exact ⟨ret_bool HE.out, rfl⟩
      | true =>
        have HN := Lib.hid (show Rl.name s.data.toList = s.data.toList.all Rl.inn by rw [hn, hf]; rfl)
        have HF := Lib.hid hf
        clear hn hf
        generalize s[0] = c at *
        go_enter Tryz.func20, Tryz.ntmps20
        go_wp2_with fail
        refine (isFirst_is c true _ HF.out).mono ?_
        rintro e w' ⟨rfl, rfl⟩
        clear hi0
        go_wp2_with fail
        go_loop [20] (fun i => ∃ k : Nat, k ≤ s.size ∧ i = .int .i64 k ∧ Hid ((s.data.toList.take k).all Rl.inn = true)) (fun i => s.size - (intOf i).toNat)
        case atStart => exact ⟨0, Nat.zero_le _, rfl, rfl⟩
        case round =>
          obtain ⟨k, hk, rfl, hA⟩ := hrel
          by_cases hlt : k < s.size
          · have hi := idx_any s .i64 k hlt
            have hT := take_snoc s k hlt
            cases hc : Rl.inn s[k] with
            | false =>
              have HE := Lib.hid (show false = Rl.name s.data.toList by rw [HN.out, inn_stop hlt hc])
              have HC := Lib.hid hc
              clear hc hT hA
              generalize s[k] = x at *
              go_wp2_with fail
              refine (isInName_is x false _ HC.out).mono ?_
              rintro e w' ⟨rfl, rfl⟩
              go_wp2_with fail
              go_ret
              exact ⟨ret_bool HE.out, rfl⟩
            | true =>
              have HA := Lib.hid (show (s.data.toList.take (k + 1)).all Rl.inn = true by rw [hT, List.all_append, hA.out]; simp [hc])
              have HC := Lib.hid hc
              clear hc hT hA
              generalize s[k] = x at *
              go_wp2_with fail
              refine (isInName_is x true _ HC.out).mono ?_
              rintro e w' ⟨rfl, rfl⟩
              go_wp2_with fail
              go_round
              case rel => exact ⟨k + 1, by omega, by go_num, HA⟩
              case measure => simp [intOf]; omega
          · obtain rfl : k = s.size := by omega
            have HE := Lib.hid (show true = Rl.name s.data.toList by rw [HN.out, ← hA.out, take_all])
            clear hA
            go_wp2_with fail
            go_ret
            exact ⟨ret_bool HE.out, rfl⟩
    · have HE := Lib.hid (name_size (s := s) (by omega))
      have h2' : 64 < s.size := by omega
      clear h2
      go_enter Tryz.func20, Tryz.ntmps20
      go_wp2_with fail
      go_ret
      exact ⟨ret_bool HE.out, rfl⟩
  · have HE := Lib.hid (name_size (s := s) (by omega))
    have h1' : s.size < 1 := by omega
    clear h1
    go_enter Tryz.func20, Tryz.ntmps20
    go_wp2_with fail
    go_ret
    exact ⟨ret_bool HE.out, rfl⟩
theorem rname_is (s : ByteArray) (v : Bool) (w : World) (hs : s.size ≤ 9223372036854775807) (h : Rl.name s.data.toList = v) : Calls Tryz.prog 20 #[.string s] w fun e w' => e = .returned (.bool v) ∧ w = w' := by
  subst h
  exact rname_any s w hs
theorem isNaN_any (x : Int) (w : World) : Calls Tryz.prog 118 #[.int .i64 x] w fun e w' => e = .returned (.bool false) ∧ w = w' := by
  go_enter Tryz.func118, Tryz.ntmps118
  go_wp2_with fail
  go_ret
  exact ⟨rfl, rfl⟩
theorem less_any (x y : Int) (w : World) : Calls Tryz.prog 99 #[.int .i64 x, .int .i64 y] w fun e w' => e = .returned (.bool (decide (x < y))) ∧ w = w' := by
  go_enter Tryz.func99, Tryz.ntmps99
  go_wp2_with fail
  refine (isNaN_any x _).mono ?_
  rintro e w' ⟨rfl, rfl⟩
  go_wp2_with fail
  go_ret
  exact ⟨rfl, rfl⟩
theorem less_is (x y : Int) (v : Bool) (w : World) (h : decide (x < y) = v) : Calls Tryz.prog 99 #[.int .i64 x, .int .i64 y] w fun e w' => e = .returned (.bool v) ∧ w' = w := by
  subst h
  exact (less_any x y w).mono fun _ _ h => ⟨h.1, h.2.symm⟩
/-- A call that leaves the world as it is, in a quiet region; and in one behind another. -/
theorem quiet_l {P : Program} {f : FuncId} {args : Array Value} {w : World} {n : Nat} {v : Value} (h : Calls P f args (w.drewN n) fun e w' => e = .returned v ∧ w' = w.drewN n) :
    Calls P f args (w.drewN n) fun e w'' => e = .returned v ∧ ∃ m, w'' = w.drewN m := h.mono fun _ _ ⟨he, hm⟩ => ⟨he, n, hm⟩
theorem quiet_add_l {P : Program} {f : FuncId} {args : Array Value} {w : World} {a n : Nat} {v : Value} (h : Calls P f args (w.drewN (a + n)) fun e w' => e = .returned v ∧ w' = w.drewN (a + n)) :
    Calls P f args (w.drewN (a + n)) fun e w'' => e = .returned v ∧ ∃ m, w'' = w.drewN (a + m) := h.mono fun _ _ ⟨he, hm⟩ => ⟨he, n, hm⟩
/-- Numbers none of which is less than the one ahead of it. -/
def up : List Int → Bool
  | a :: b :: r => decide (a ≤ b) && up (b :: r)
  | _ => true
section
variable (g : Nat) (w : World)
theorem sorted2_1 (a b : Int) (_hg : g < w.heap.size) (c0 : w.cell? ⟨g, 0, none⟩ = some (.int .i64 a)) (c1 : w.cell? ⟨g, 1, none⟩ = some (.int .i64 b)) (h1 : b < a) : Calls Tryz.prog 76 #[.slice (some ⟨g, 0, none⟩) 2 2] w fun e w' => e = .returned (.bool false) ∧ Below w.heap.size w w' := by
  have t1 := Lib.hid (show decide (b < a) = true by simp; omega)
  clear h1
  have q0 : IntKind.i64.wrap 0 = 0 := by decide
  go_enter Tryz.func76, Tryz.ntmps76
  go_wp2_with fail
  refine wp_loop_rounds 1 ?_
  rw [rounds_succ]
  go_wp2_with fail
  go_quiet ((go_at_call 99; first | exact quiet_add_l (less_is b a true _ t1.out) | exact quiet_l (less_is b a true _ t1.out)))
  go_wp2_with fail
  go_ret
  refine ⟨rfl, ?_⟩
  repeat (first | exact Below.refl _ _ | assumption | refine below_drewN ?_ _ | refine Below.drew ?_ | refine Below.setCell ?_ (by first | omega | (simp; done) | (simp; omega)) _ | refine Below.alloc ?_ (by first | omega | (simp; done) | (simp; omega)) _)
theorem sorted2_0 (a b : Int) (_hg : g < w.heap.size) (c0 : w.cell? ⟨g, 0, none⟩ = some (.int .i64 a)) (c1 : w.cell? ⟨g, 1, none⟩ = some (.int .i64 b)) (h1 : a ≤ b) : Calls Tryz.prog 76 #[.slice (some ⟨g, 0, none⟩) 2 2] w fun e w' => e = .returned (.bool true) ∧ Below w.heap.size w w' := by
  have t1 := Lib.hid (show decide (b < a) = false by simp; omega)
  clear h1
  have q0 : IntKind.i64.wrap 0 = 0 := by decide
  go_enter Tryz.func76, Tryz.ntmps76
  go_wp2_with fail
  refine wp_loop_rounds 2 ?_
  rw [rounds_succ]
  go_wp2_with fail
  go_quiet ((go_at_call 99; first | exact quiet_add_l (less_is b a false _ t1.out) | exact quiet_l (less_is b a false _ t1.out)))
  go_wp2_with fail
  rw [rounds_succ]
  go_wp2_with fail
  go_ret
  refine ⟨rfl, ?_⟩
  repeat (first | exact Below.refl _ _ | assumption | refine below_drewN ?_ _ | refine Below.drew ?_ | refine Below.setCell ?_ (by first | omega | (simp; done) | (simp; omega)) _ | refine Below.alloc ?_ (by first | omega | (simp; done) | (simp; omega)) _)
theorem sorted2 (a b : Int) (hg : g < w.heap.size) (c0 : w.cell? ⟨g, 0, none⟩ = some (.int .i64 a)) (c1 : w.cell? ⟨g, 1, none⟩ = some (.int .i64 b)) : Calls Tryz.prog 76 #[.slice (some ⟨g, 0, none⟩) 2 2] w fun e w' => e = .returned (.bool (up [a, b])) ∧ Below w.heap.size w w' := by
  by_cases h1 : a ≤ b
  case neg => rw [show up [a, b] = false by simp [up]; omega]; exact sorted2_1 g w a b hg c0 c1  (by omega)
  rw [show up [a, b] = true by simp [up]; omega]
  exact sorted2_0 g w a b hg c0 c1 h1
theorem rise2 (a b : Int) (v : Bool) (hg : g < w.heap.size) (c0 : w.cell? ⟨g, 0, none⟩ = some (.int .i64 a)) (c1 : w.cell? ⟨g, 1, none⟩ = some (.int .i64 b)) (hv : up [a, b] = v) : Calls Tryz.prog 39 #[.slice (some ⟨g, 0, none⟩) 2 2] w fun e w' => e = .returned (.bool v) ∧ Below w.heap.size w w' := by
  have H := Lib.hid (sorted2 g w a b hg c0 c1)
  rw [hv] at H
  clear hv
  go_enter Tryz.func39, Tryz.ntmps39
  go_wp2_with fail
  refine H.out.mono ?_
  rintro e w1 ⟨rfl, b1⟩
  go_wp2_with fail
  go_ret
  exact ⟨rfl, b1⟩
theorem sorted3_2 (a b c : Int) (_hg : g < w.heap.size) (_c0 : w.cell? ⟨g, 0, none⟩ = some (.int .i64 a)) (c1 : w.cell? ⟨g, 1, none⟩ = some (.int .i64 b)) (c2 : w.cell? ⟨g, 2, none⟩ = some (.int .i64 c)) (h2 : c < b) : Calls Tryz.prog 76 #[.slice (some ⟨g, 0, none⟩) 3 3] w fun e w' => e = .returned (.bool false) ∧ Below w.heap.size w w' := by
  have t2 := Lib.hid (show decide (c < b) = true by simp; omega)
  clear h2
  have q1 : IntKind.i64.wrap 1 = 1 := by decide
  have q0 : IntKind.i64.wrap 0 = 0 := by decide
  go_enter Tryz.func76, Tryz.ntmps76
  go_wp2_with fail
  refine wp_loop_rounds 1 ?_
  rw [rounds_succ]
  go_wp2_with fail
  go_quiet ((go_at_call 99; first | exact quiet_add_l (less_is c b true _ t2.out) | exact quiet_l (less_is c b true _ t2.out)))
  go_wp2_with fail
  go_ret
  refine ⟨rfl, ?_⟩
  repeat (first | exact Below.refl _ _ | assumption | refine below_drewN ?_ _ | refine Below.drew ?_ | refine Below.setCell ?_ (by first | omega | (simp; done) | (simp; omega)) _ | refine Below.alloc ?_ (by first | omega | (simp; done) | (simp; omega)) _)
theorem sorted3_1 (a b c : Int) (_hg : g < w.heap.size) (c0 : w.cell? ⟨g, 0, none⟩ = some (.int .i64 a)) (c1 : w.cell? ⟨g, 1, none⟩ = some (.int .i64 b)) (c2 : w.cell? ⟨g, 2, none⟩ = some (.int .i64 c)) (h2 : b ≤ c) (h1 : b < a) : Calls Tryz.prog 76 #[.slice (some ⟨g, 0, none⟩) 3 3] w fun e w' => e = .returned (.bool false) ∧ Below w.heap.size w w' := by
  have t2 := Lib.hid (show decide (c < b) = false by simp; omega)
  have t1 := Lib.hid (show decide (b < a) = true by simp; omega)
  clear h2 h1
  have q1 : IntKind.i64.wrap 1 = 1 := by decide
  have q0 : IntKind.i64.wrap 0 = 0 := by decide
  go_enter Tryz.func76, Tryz.ntmps76
  go_wp2_with fail
  refine wp_loop_rounds 2 ?_
  rw [rounds_succ]
  go_wp2_with fail
  go_quiet ((go_at_call 99; first | exact quiet_add_l (less_is c b false _ t2.out) | exact quiet_l (less_is c b false _ t2.out)))
  go_wp2_with fail
  rw [rounds_succ]
  go_wp2_with fail
  go_quiet ((go_at_call 99; first | exact quiet_add_l (less_is b a true _ t1.out) | exact quiet_l (less_is b a true _ t1.out)))
  go_wp2_with fail
  go_ret
  refine ⟨rfl, ?_⟩
  repeat (first | exact Below.refl _ _ | assumption | refine below_drewN ?_ _ | refine Below.drew ?_ | refine Below.setCell ?_ (by first | omega | (simp; done) | (simp; omega)) _ | refine Below.alloc ?_ (by first | omega | (simp; done) | (simp; omega)) _)
theorem sorted3_0 (a b c : Int) (_hg : g < w.heap.size) (c0 : w.cell? ⟨g, 0, none⟩ = some (.int .i64 a)) (c1 : w.cell? ⟨g, 1, none⟩ = some (.int .i64 b)) (c2 : w.cell? ⟨g, 2, none⟩ = some (.int .i64 c)) (h2 : b ≤ c) (h1 : a ≤ b) : Calls Tryz.prog 76 #[.slice (some ⟨g, 0, none⟩) 3 3] w fun e w' => e = .returned (.bool true) ∧ Below w.heap.size w w' := by
  have t2 := Lib.hid (show decide (c < b) = false by simp; omega)
  have t1 := Lib.hid (show decide (b < a) = false by simp; omega)
  clear h2 h1
  have q1 : IntKind.i64.wrap 1 = 1 := by decide
  have q0 : IntKind.i64.wrap 0 = 0 := by decide
  go_enter Tryz.func76, Tryz.ntmps76
  go_wp2_with fail
  refine wp_loop_rounds 3 ?_
  rw [rounds_succ]
  go_wp2_with fail
  go_quiet ((go_at_call 99; first | exact quiet_add_l (less_is c b false _ t2.out) | exact quiet_l (less_is c b false _ t2.out)))
  go_wp2_with fail
  rw [rounds_succ]
  go_wp2_with fail
  go_quiet ((go_at_call 99; first | exact quiet_add_l (less_is b a false _ t1.out) | exact quiet_l (less_is b a false _ t1.out)))
  go_wp2_with fail
  rw [rounds_succ]
  go_wp2_with fail
  go_ret
  refine ⟨rfl, ?_⟩
  repeat (first | exact Below.refl _ _ | assumption | refine below_drewN ?_ _ | refine Below.drew ?_ | refine Below.setCell ?_ (by first | omega | (simp; done) | (simp; omega)) _ | refine Below.alloc ?_ (by first | omega | (simp; done) | (simp; omega)) _)
theorem sorted3 (a b c : Int) (hg : g < w.heap.size) (c0 : w.cell? ⟨g, 0, none⟩ = some (.int .i64 a)) (c1 : w.cell? ⟨g, 1, none⟩ = some (.int .i64 b)) (c2 : w.cell? ⟨g, 2, none⟩ = some (.int .i64 c)) : Calls Tryz.prog 76 #[.slice (some ⟨g, 0, none⟩) 3 3] w fun e w' => e = .returned (.bool (up [a, b, c])) ∧ Below w.heap.size w w' := by
  by_cases h2 : b ≤ c
  case neg => rw [show up [a, b, c] = false by simp [up]; omega]; exact sorted3_2 g w a b c hg c0 c1 c2  (by omega)
  by_cases h1 : a ≤ b
  case neg => rw [show up [a, b, c] = false by simp [up]; omega]; exact sorted3_1 g w a b c hg c0 c1 c2 h2 (by omega)
  rw [show up [a, b, c] = true by simp [up]; omega]
  exact sorted3_0 g w a b c hg c0 c1 c2 h2 h1
theorem rise3 (a b c : Int) (v : Bool) (hg : g < w.heap.size) (c0 : w.cell? ⟨g, 0, none⟩ = some (.int .i64 a)) (c1 : w.cell? ⟨g, 1, none⟩ = some (.int .i64 b)) (c2 : w.cell? ⟨g, 2, none⟩ = some (.int .i64 c)) (hv : up [a, b, c] = v) : Calls Tryz.prog 39 #[.slice (some ⟨g, 0, none⟩) 3 3] w fun e w' => e = .returned (.bool v) ∧ Below w.heap.size w w' := by
  have H := Lib.hid (sorted3 g w a b c hg c0 c1 c2)
  rw [hv] at H
  clear hv
  go_enter Tryz.func39, Tryz.ntmps39
  go_wp2_with fail
  refine H.out.mono ?_
  rintro e w1 ⟨rfl, b1⟩
  go_wp2_with fail
  go_ret
  exact ⟨rfl, b1⟩
theorem sorted4_3 (a b c d : Int) (_hg : g < w.heap.size) (_c0 : w.cell? ⟨g, 0, none⟩ = some (.int .i64 a)) (_c1 : w.cell? ⟨g, 1, none⟩ = some (.int .i64 b)) (c2 : w.cell? ⟨g, 2, none⟩ = some (.int .i64 c)) (c3 : w.cell? ⟨g, 3, none⟩ = some (.int .i64 d)) (h3 : d < c) : Calls Tryz.prog 76 #[.slice (some ⟨g, 0, none⟩) 4 4] w fun e w' => e = .returned (.bool false) ∧ Below w.heap.size w w' := by
  have t3 := Lib.hid (show decide (d < c) = true by simp; omega)
  clear h3
  have q2 : IntKind.i64.wrap 2 = 2 := by decide
  have q1 : IntKind.i64.wrap 1 = 1 := by decide
  have q0 : IntKind.i64.wrap 0 = 0 := by decide
  go_enter Tryz.func76, Tryz.ntmps76
  go_wp2_with fail
  refine wp_loop_rounds 1 ?_
  rw [rounds_succ]
  go_wp2_with fail
  go_quiet ((go_at_call 99; first | exact quiet_add_l (less_is d c true _ t3.out) | exact quiet_l (less_is d c true _ t3.out)))
  go_wp2_with fail
  go_ret
  refine ⟨rfl, ?_⟩
  repeat (first | exact Below.refl _ _ | assumption | refine below_drewN ?_ _ | refine Below.drew ?_ | refine Below.setCell ?_ (by first | omega | (simp; done) | (simp; omega)) _ | refine Below.alloc ?_ (by first | omega | (simp; done) | (simp; omega)) _)
theorem sorted4_2 (a b c d : Int) (_hg : g < w.heap.size) (_c0 : w.cell? ⟨g, 0, none⟩ = some (.int .i64 a)) (c1 : w.cell? ⟨g, 1, none⟩ = some (.int .i64 b)) (c2 : w.cell? ⟨g, 2, none⟩ = some (.int .i64 c)) (c3 : w.cell? ⟨g, 3, none⟩ = some (.int .i64 d)) (h3 : c ≤ d) (h2 : c < b) : Calls Tryz.prog 76 #[.slice (some ⟨g, 0, none⟩) 4 4] w fun e w' => e = .returned (.bool false) ∧ Below w.heap.size w w' := by
  have t3 := Lib.hid (show decide (d < c) = false by simp; omega)
  have t2 := Lib.hid (show decide (c < b) = true by simp; omega)
  clear h3 h2
  have q2 : IntKind.i64.wrap 2 = 2 := by decide
  have q1 : IntKind.i64.wrap 1 = 1 := by decide
  have q0 : IntKind.i64.wrap 0 = 0 := by decide
  go_enter Tryz.func76, Tryz.ntmps76
  go_wp2_with fail
  refine wp_loop_rounds 2 ?_
  rw [rounds_succ]
  go_wp2_with fail
  go_quiet ((go_at_call 99; first | exact quiet_add_l (less_is d c false _ t3.out) | exact quiet_l (less_is d c false _ t3.out)))
  go_wp2_with fail
  rw [rounds_succ]
  go_wp2_with fail
  go_quiet ((go_at_call 99; first | exact quiet_add_l (less_is c b true _ t2.out) | exact quiet_l (less_is c b true _ t2.out)))
  go_wp2_with fail
  go_ret
  refine ⟨rfl, ?_⟩
  repeat (first | exact Below.refl _ _ | assumption | refine below_drewN ?_ _ | refine Below.drew ?_ | refine Below.setCell ?_ (by first | omega | (simp; done) | (simp; omega)) _ | refine Below.alloc ?_ (by first | omega | (simp; done) | (simp; omega)) _)
theorem sorted4_1 (a b c d : Int) (_hg : g < w.heap.size) (c0 : w.cell? ⟨g, 0, none⟩ = some (.int .i64 a)) (c1 : w.cell? ⟨g, 1, none⟩ = some (.int .i64 b)) (c2 : w.cell? ⟨g, 2, none⟩ = some (.int .i64 c)) (c3 : w.cell? ⟨g, 3, none⟩ = some (.int .i64 d)) (h3 : c ≤ d) (h2 : b ≤ c) (h1 : b < a) : Calls Tryz.prog 76 #[.slice (some ⟨g, 0, none⟩) 4 4] w fun e w' => e = .returned (.bool false) ∧ Below w.heap.size w w' := by
  have t3 := Lib.hid (show decide (d < c) = false by simp; omega)
  have t2 := Lib.hid (show decide (c < b) = false by simp; omega)
  have t1 := Lib.hid (show decide (b < a) = true by simp; omega)
  clear h3 h2 h1
  have q2 : IntKind.i64.wrap 2 = 2 := by decide
  have q1 : IntKind.i64.wrap 1 = 1 := by decide
  have q0 : IntKind.i64.wrap 0 = 0 := by decide
  go_enter Tryz.func76, Tryz.ntmps76
  go_wp2_with fail
  refine wp_loop_rounds 3 ?_
  rw [rounds_succ]
  go_wp2_with fail
  go_quiet ((go_at_call 99; first | exact quiet_add_l (less_is d c false _ t3.out) | exact quiet_l (less_is d c false _ t3.out)))
  go_wp2_with fail
  rw [rounds_succ]
  go_wp2_with fail
  go_quiet ((go_at_call 99; first | exact quiet_add_l (less_is c b false _ t2.out) | exact quiet_l (less_is c b false _ t2.out)))
  go_wp2_with fail
  rw [rounds_succ]
  go_wp2_with fail
  go_quiet ((go_at_call 99; first | exact quiet_add_l (less_is b a true _ t1.out) | exact quiet_l (less_is b a true _ t1.out)))
  go_wp2_with fail
  go_ret
  refine ⟨rfl, ?_⟩
  repeat (first | exact Below.refl _ _ | assumption | refine below_drewN ?_ _ | refine Below.drew ?_ | refine Below.setCell ?_ (by first | omega | (simp; done) | (simp; omega)) _ | refine Below.alloc ?_ (by first | omega | (simp; done) | (simp; omega)) _)
theorem sorted4_0 (a b c d : Int) (_hg : g < w.heap.size) (c0 : w.cell? ⟨g, 0, none⟩ = some (.int .i64 a)) (c1 : w.cell? ⟨g, 1, none⟩ = some (.int .i64 b)) (c2 : w.cell? ⟨g, 2, none⟩ = some (.int .i64 c)) (c3 : w.cell? ⟨g, 3, none⟩ = some (.int .i64 d)) (h3 : c ≤ d) (h2 : b ≤ c) (h1 : a ≤ b) : Calls Tryz.prog 76 #[.slice (some ⟨g, 0, none⟩) 4 4] w fun e w' => e = .returned (.bool true) ∧ Below w.heap.size w w' := by
  have t3 := Lib.hid (show decide (d < c) = false by simp; omega)
  have t2 := Lib.hid (show decide (c < b) = false by simp; omega)
  have t1 := Lib.hid (show decide (b < a) = false by simp; omega)
  clear h3 h2 h1
  have q2 : IntKind.i64.wrap 2 = 2 := by decide
  have q1 : IntKind.i64.wrap 1 = 1 := by decide
  have q0 : IntKind.i64.wrap 0 = 0 := by decide
  go_enter Tryz.func76, Tryz.ntmps76
  go_wp2_with fail
  refine wp_loop_rounds 4 ?_
  rw [rounds_succ]
  go_wp2_with fail
  go_quiet ((go_at_call 99; first | exact quiet_add_l (less_is d c false _ t3.out) | exact quiet_l (less_is d c false _ t3.out)))
  go_wp2_with fail
  rw [rounds_succ]
  go_wp2_with fail
  go_quiet ((go_at_call 99; first | exact quiet_add_l (less_is c b false _ t2.out) | exact quiet_l (less_is c b false _ t2.out)))
  go_wp2_with fail
  rw [rounds_succ]
  go_wp2_with fail
  go_quiet ((go_at_call 99; first | exact quiet_add_l (less_is b a false _ t1.out) | exact quiet_l (less_is b a false _ t1.out)))
  go_wp2_with fail
  rw [rounds_succ]
  go_wp2_with fail
  go_ret
  refine ⟨rfl, ?_⟩
  repeat (first | exact Below.refl _ _ | assumption | refine below_drewN ?_ _ | refine Below.drew ?_ | refine Below.setCell ?_ (by first | omega | (simp; done) | (simp; omega)) _ | refine Below.alloc ?_ (by first | omega | (simp; done) | (simp; omega)) _)
theorem sorted4 (a b c d : Int) (hg : g < w.heap.size) (c0 : w.cell? ⟨g, 0, none⟩ = some (.int .i64 a)) (c1 : w.cell? ⟨g, 1, none⟩ = some (.int .i64 b)) (c2 : w.cell? ⟨g, 2, none⟩ = some (.int .i64 c)) (c3 : w.cell? ⟨g, 3, none⟩ = some (.int .i64 d)) : Calls Tryz.prog 76 #[.slice (some ⟨g, 0, none⟩) 4 4] w fun e w' => e = .returned (.bool (up [a, b, c, d])) ∧ Below w.heap.size w w' := by
  by_cases h3 : c ≤ d
  case neg => rw [show up [a, b, c, d] = false by simp [up]; omega]; exact sorted4_3 g w a b c d hg c0 c1 c2 c3  (by omega)
  by_cases h2 : b ≤ c
  case neg => rw [show up [a, b, c, d] = false by simp [up]; omega]; exact sorted4_2 g w a b c d hg c0 c1 c2 c3 h3 (by omega)
  by_cases h1 : a ≤ b
  case neg => rw [show up [a, b, c, d] = false by simp [up]; omega]; exact sorted4_1 g w a b c d hg c0 c1 c2 c3 h3 h2 (by omega)
  rw [show up [a, b, c, d] = true by simp [up]; omega]
  exact sorted4_0 g w a b c d hg c0 c1 c2 c3 h3 h2 h1
theorem rise4 (a b c d : Int) (v : Bool) (hg : g < w.heap.size) (c0 : w.cell? ⟨g, 0, none⟩ = some (.int .i64 a)) (c1 : w.cell? ⟨g, 1, none⟩ = some (.int .i64 b)) (c2 : w.cell? ⟨g, 2, none⟩ = some (.int .i64 c)) (c3 : w.cell? ⟨g, 3, none⟩ = some (.int .i64 d)) (hv : up [a, b, c, d] = v) : Calls Tryz.prog 39 #[.slice (some ⟨g, 0, none⟩) 4 4] w fun e w' => e = .returned (.bool v) ∧ Below w.heap.size w w' := by
  have H := Lib.hid (sorted4 g w a b c d hg c0 c1 c2 c3)
  rw [hv] at H
  clear hv
  go_enter Tryz.func39, Tryz.ntmps39
  go_wp2_with fail
  refine H.out.mono ?_
  rintro e w1 ⟨rfl, b1⟩
  go_wp2_with fail
  go_ret
  exact ⟨rfl, b1⟩
end
end Go.Proofs.YtigmbkcjmlpfoaaGreatDoor
