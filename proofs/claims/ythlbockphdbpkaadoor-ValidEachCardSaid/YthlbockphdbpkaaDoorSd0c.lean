/- What is wanted of the texts behind: a piece, by program. -/
import Derived.Test.YthlbockphdbpkaaDoorProg
import Derived.Test.YthlbockphdbpkaaDoorShelf
import Derived.Lib.Join
import Derived.Shelf.Abstract
import Init
import Derived.WalkKit
import Derived.Lib.Hide
import Derived.Deep.QuietTactic
import Derived.BigQuiet
import Derived.Outline
import Derived.Lib.ItoaNum
import Derived.Lib.Split
import Derived.LoopTactic
import Derived.Lib.LaidTab
import Derived.Lib.AppendIntMem
import Derived.LoopN
import Derived.Handy
import Derived.Deep.RegionHeld3
import Derived.Below
import Derived.ChangeSlices
import Derived.SliceStrings
import Derived.WideShapes
import Derived.Deep.Slices
import Derived.OpenShut
import Derived.Calls
import Derived.Lib.IndexMore
import Derived.Laws.IdiomStrings
import Derived.Laws.AppendOwn
import Derived.Lib.BufferWrite
import Derived.Deep.RegionLaw
import Derived.Lib.LazyBuf
import Derived.OwnWalk
import Derived.ChangeArms
import Derived.Deep.LoopGhost
import Derived.Scope
import Derived.ScopeJumps
import Derived.WalkMore
import Derived.Lib.BufferRead
import Derived.Laws.OwnMore
import Derived.Maps.AppendAt
import Derived.Deep.AppendLies
import Derived.Lib.AppendZeros
import Derived.Laws.AppendOwnNone
import Derived.Lib.SplitLaws
import Derived.Lib.SmallJoins
import Derived.Test.YthlbockphdbpkaaDoorSd0a
import Derived.Test.YthlbockphdbpkaaDoorSd0b
namespace Go.Proofs.YthlbockphdbpkaaDoor
open Go.RowKit
theorem first_yes {c : UInt8} (h : (97 ≤ (c.toNat : Int) ∧ (c.toNat : Int) ≤ 122) ∨ (65 ≤ (c.toNat : Int) ∧ (c.toNat : Int) ≤ 90) ∨ (c.toNat : Int) = 95) : true = Rl.first c := by
  symm
  unfold Rl.first
  rw [decide_eq_true_eq]
  omega
theorem first_no {c : UInt8} (h : ¬ ((97 ≤ (c.toNat : Int) ∧ (c.toNat : Int) ≤ 122) ∨ (65 ≤ (c.toNat : Int) ∧ (c.toNat : Int) ≤ 90) ∨ (c.toNat : Int) = 95)) : false = Rl.first c := by
  symm
  unfold Rl.first
  rw [decide_eq_false_iff_not]
  omega
theorem isFirst_any (c : UInt8) (w : World) : Calls Tryd.prog 51 #[.int .u8 (c.toNat : Int)] w fun e w' => e = .returned (.bool (Rl.first c)) ∧ w = w' := by
  have hb := c.toNat_lt
  by_cases e1 : c.toNat = 95
  · obtain rfl : c = 95 := UInt8.toNat_inj.1 e1
    clear hb e1
    go_enter Tryd.func51, Tryd.ntmps51
    go_wp2_with fail
    go_ret
    exact ⟨rfl, rfl⟩
  · have t1 : ((c.toNat : Int) == 95) = false := by rw [beq_eq_false_iff_ne]; omega
    have E1 := Lib.hid e1
    clear e1
    go_enter Tryd.func51, Tryd.ntmps51
    go_wp2_with fail
    all_goals
      go_ret
      have h1 := E1.out
      exact ⟨ret_bool (by first | exact first_yes (by omega) | exact first_no (by omega) | (unfold Rl.first; rw [Bool.eq_iff_iff]; simp only [Bool.or_eq_true, decide_eq_true_eq]; omega)), rfl⟩
theorem isFirst_is (c : UInt8) (v : Bool) (w : World) (h : Rl.first c = v) : Calls Tryd.prog 51 #[.int .u8 (c.toNat : Int)] w fun e w' => e = .returned (.bool v) ∧ w = w' := by
  subst h
  exact isFirst_any c w
theorem inn_first {c : UInt8} (h : Rl.first c = true) : true = Rl.inn c := by
  have := of_decide_eq_true h
  symm
  unfold Rl.inn
  rw [decide_eq_true_eq]
  omega
theorem inn_yes {c : UInt8} (h : 48 ≤ (c.toNat : Int) ∧ (c.toNat : Int) ≤ 57) : true = Rl.inn c := by
  symm
  unfold Rl.inn
  rw [decide_eq_true_eq]
  omega
theorem inn_no {c : UInt8} (h : Rl.first c = false) (h1 : ¬ (48 ≤ (c.toNat : Int) ∧ (c.toNat : Int) ≤ 57)) (h2 : c.toNat ≠ 43) (h3 : c.toNat ≠ 45) (h4 : c.toNat ≠ 47) : false = Rl.inn c := by
  have := of_decide_eq_false h
  symm
  unfold Rl.inn
  rw [decide_eq_false_iff_not]
  omega
theorem isInName_any (c : UInt8) (w : World) : Calls Tryd.prog 52 #[.int .u8 (c.toNat : Int)] w fun e w' => e = .returned (.bool (Rl.inn c)) ∧ w = w' := by
  have hb := c.toNat_lt
  cases hd : Rl.first c with
  | true =>
    have HD := Lib.hid hd
    clear hd hb
    go_enter Tryd.func52, Tryd.ntmps52
    go_wp2_with fail
    refine (isFirst_is c true _ HD.out).mono ?_
    rintro e w' ⟨rfl, rfl⟩
    go_wp2_with fail
    go_ret
    exact ⟨ret_bool (inn_first HD.out), rfl⟩
  | false =>
    have HD := Lib.hid hd
    clear hd
    by_cases e43 : c.toNat = 43
    · obtain rfl : c = 43 := UInt8.toNat_inj.1 e43
      clear hb e43
      go_enter Tryd.func52, Tryd.ntmps52
      go_wp2_with fail
      refine (isFirst_is 43 false _ HD.out).mono ?_
      rintro e w' ⟨rfl, rfl⟩
      go_wp2_with fail
      go_ret
      exact ⟨rfl, rfl⟩
    by_cases e45 : c.toNat = 45
    · obtain rfl : c = 45 := UInt8.toNat_inj.1 e45
      clear hb e45
      go_enter Tryd.func52, Tryd.ntmps52
      go_wp2_with fail
      refine (isFirst_is 45 false _ HD.out).mono ?_
      rintro e w' ⟨rfl, rfl⟩
      go_wp2_with fail
      go_ret
      exact ⟨rfl, rfl⟩
    by_cases e47 : c.toNat = 47
    · obtain rfl : c = 47 := UInt8.toNat_inj.1 e47
      clear hb e47
      go_enter Tryd.func52, Tryd.ntmps52
      go_wp2_with fail
      refine (isFirst_is 47 false _ HD.out).mono ?_
      rintro e w' ⟨rfl, rfl⟩
      go_wp2_with fail
      go_ret
      exact ⟨rfl, rfl⟩
    have t43 : ((c.toNat : Int) == 43) = false := by rw [beq_eq_false_iff_ne]; omega
    have E43 := Lib.hid e43
    have t45 : ((c.toNat : Int) == 45) = false := by rw [beq_eq_false_iff_ne]; omega
    have E45 := Lib.hid e45
    have t47 : ((c.toNat : Int) == 47) = false := by rw [beq_eq_false_iff_ne]; omega
    have E47 := Lib.hid e47
    clear e43 e45 e47
    go_enter Tryd.func52, Tryd.ntmps52
    go_wp2_with fail
    refine (isFirst_is c false _ HD.out).mono ?_
    rintro e w' ⟨rfl, rfl⟩
    go_wp2_with fail
    all_goals
      go_ret
      have hd := of_decide_eq_false HD.out
      have h43 := E43.out
      have h45 := E45.out
      have h47 := E47.out
      exact ⟨ret_bool (by first | exact inn_yes (by omega) | exact inn_no HD.out (by omega) h43 h45 h47 | (unfold Rl.inn; rw [Bool.eq_iff_iff]; simp only [decide_eq_true_eq]; omega)), rfl⟩
theorem isInName_is (c : UInt8) (v : Bool) (w : World) (h : Rl.inn c = v) : Calls Tryd.prog 52 #[.int .u8 (c.toNat : Int)] w fun e w' => e = .returned (.bool v) ∧ w = w' := by
  subst h
  exact isInName_any c w
theorem name_head {s : ByteArray} (h : 0 < s.size) : s.data.toList.take 1 = [s[0]] := by
  have := take_snoc s 0 h
  simpa using this
theorem inn_stop {s : ByteArray} {k : Nat} (h : k < s.size) (hc : Rl.inn s[k] = false) : s.data.toList.all Rl.inn = false := by
  rw [List.all_eq_false]
  refine ⟨s[k], ?_, by rw [hc]; simp⟩
  have : s.data.toList[k]? = some s[k] := Lib.data_getElem? s k h
  exact List.mem_of_getElem? this
theorem name_size {s : ByteArray} (h : ¬ (1 ≤ s.size ∧ s.size ≤ 64)) : false = Rl.name s.data.toList := by
  have hz : s.data.toList.length = s.size := by simp
  unfold Rl.name
  rw [hz, show decide (1 ≤ s.size ∧ s.size ≤ 64) = false from decide_eq_false h]
  rfl
theorem name_in {s : ByteArray} (h1 : 1 ≤ s.size) (h2 : s.size ≤ 64) : Rl.name s.data.toList = (Rl.first s[0] && s.data.toList.all Rl.inn) := by
  have hz : s.data.toList.length = s.size := by simp
  unfold Rl.name
  rw [hz, name_head (by omega), show decide (1 ≤ s.size ∧ s.size ≤ 64) = true from decide_eq_true ⟨h1, h2⟩]
  simp
set_option maxHeartbeats 1000000 in
theorem rname_any (s : ByteArray) (w : World) (hs : s.size ≤ 9223372036854775807) : Calls Tryd.prog 32 #[.string s] w fun e w' => e = .returned (.bool (Rl.name s.data.toList)) ∧ w = w' := by
  by_cases h1 : 1 ≤ s.size
  · by_cases h2 : s.size ≤ 64
    · have hi0 : ∀ W, (Instr.index 9 (.string s) (.int .i64 0)).run Tryd.prog W = .ok (.int .u8 (s[0].toNat : Int)) W := fun W => by simpa using idx_any s .i64 0 (by omega) W
      have hn := name_in h1 h2
      cases hf : Rl.first s[0] with
      | false =>
        have HE := Lib.hid (show false = Rl.name s.data.toList by rw [hn, hf]; rfl)
        have HF := Lib.hid hf
        clear hn hf
        generalize s[0] = c at *
        go_enter Tryd.func32, Tryd.ntmps32
        go_wp2_with fail
        refine (isFirst_is c false _ HF.out).mono ?_
        rintro e w' ⟨rfl, rfl⟩
        go_wp2_with fail
        go_ret
        exact ⟨ret_bool HE.out, rfl⟩
      | true =>
        have HN := Lib.hid (show Rl.name s.data.toList = s.data.toList.all Rl.inn by rw [hn, hf]; rfl)
        have HF := Lib.hid hf
        clear hn hf
        generalize s[0] = c at *
        go_enter Tryd.func32, Tryd.ntmps32
        go_wp2_with fail
        refine (isFirst_is c true _ HF.out).mono ?_
        rintro e w' ⟨rfl, rfl⟩
        clear hi0
        go_wp2_with fail
        go_loop [20] (fun i => ∃ k : Nat, k ≤ s.size ∧ i = .int .i64 k ∧ Hid ((s.data.toList.take k).all Rl.inn = true)) (fun i => s.size - (intOf i).toNat)
        case atStart => exact ⟨0, Nat.zero_le _, rfl, rfl⟩
        case round =>
          obtain ⟨k, hk, rfl, hA⟩ := hrel
          by_cases hlt : k < s.size
          · have hi := idx_any s .i64 k hlt
            have hT := take_snoc s k hlt
            cases hc : Rl.inn s[k] with
            | false =>
              have HE := Lib.hid (show false = Rl.name s.data.toList by rw [HN.out, inn_stop hlt hc])
              have HC := Lib.hid hc
              clear hc hT hA
              generalize s[k] = x at *
              go_wp2_with fail
              refine (isInName_is x false _ HC.out).mono ?_
              rintro e w' ⟨rfl, rfl⟩
              go_wp2_with fail
              go_ret
              exact ⟨ret_bool HE.out, rfl⟩
            | true =>
              have HA := Lib.hid (show (s.data.toList.take (k + 1)).all Rl.inn = true by rw [hT, List.all_append, hA.out]; simp [hc])
              have HC := Lib.hid hc
              clear hc hT hA
              generalize s[k] = x at *
              go_wp2_with fail
              refine (isInName_is x true _ HC.out).mono ?_
              rintro e w' ⟨rfl, rfl⟩
              go_wp2_with fail
              go_round
              case rel => exact ⟨k + 1, by omega, by go_num, HA⟩
              case measure => simp [intOf]; omega
          · obtain rfl : k = s.size := by omega
            have HE := Lib.hid (show true = Rl.name s.data.toList by rw [HN.out, ← hA.out, take_all])
            clear hA
            go_wp2_with fail
            go_ret
            exact ⟨ret_bool HE.out, rfl⟩
    · have HE := Lib.hid (name_size (s := s) (by omega))
      have h2' : 64 < s.size := by omega
      clear h2
      go_enter Tryd.func32, Tryd.ntmps32
      go_wp2_with fail
      go_ret
      exact ⟨ret_bool HE.out, rfl⟩
  · have HE := Lib.hid (name_size (s := s) (by omega))
    have h1' : s.size < 1 := by omega
    clear h1
    go_enter Tryd.func32, Tryd.ntmps32
    go_wp2_with fail
    go_ret
    exact ⟨ret_bool HE.out, rfl⟩
theorem rname_is (s : ByteArray) (v : Bool) (w : World) (hs : s.size ≤ 9223372036854775807) (h : Rl.name s.data.toList = v) : Calls Tryd.prog 32 #[.string s] w fun e w' => e = .returned (.bool v) ∧ w = w' := by
  subst h
  exact rname_any s w hs
theorem isNaN_any (x : Int) (w : World) : Calls Tryd.prog 78 #[.int .i64 x] w fun e w' => e = .returned (.bool false) ∧ w = w' := by
  go_enter Tryd.func78, Tryd.ntmps78
  go_wp2_with fail
  go_ret
  exact ⟨rfl, rfl⟩
theorem less_any (x y : Int) (w : World) : Calls Tryd.prog 67 #[.int .i64 x, .int .i64 y] w fun e w' => e = .returned (.bool (decide (x < y))) ∧ w = w' := by
  go_enter Tryd.func67, Tryd.ntmps67
  go_wp2_with fail
  refine (isNaN_any x _).mono ?_
  rintro e w' ⟨rfl, rfl⟩
  go_wp2_with fail
  go_ret
  exact ⟨rfl, rfl⟩
theorem less_is (x y : Int) (v : Bool) (w : World) (h : decide (x < y) = v) : Calls Tryd.prog 67 #[.int .i64 x, .int .i64 y] w fun e w' => e = .returned (.bool v) ∧ w' = w := by
  subst h
  exact (less_any x y w).mono fun _ _ h => ⟨h.1, h.2.symm⟩
/-- A call that leaves the world as it is, in a quiet region; and in one behind another. -/
theorem quiet_l {P : Program} {f : FuncId} {args : Array Value} {w : World} {n : Nat} {v : Value} (h : Calls P f args (w.drewN n) fun e w' => e = .returned v ∧ w' = w.drewN n) :
    Calls P f args (w.drewN n) fun e w'' => e = .returned v ∧ ∃ m, w'' = w.drewN m := h.mono fun _ _ ⟨he, hm⟩ => ⟨he, n, hm⟩
theorem quiet_add_l {P : Program} {f : FuncId} {args : Array Value} {w : World} {a n : Nat} {v : Value} (h : Calls P f args (w.drewN (a + n)) fun e w' => e = .returned v ∧ w' = w.drewN (a + n)) :
    Calls P f args (w.drewN (a + n)) fun e w'' => e = .returned v ∧ ∃ m, w'' = w.drewN (a + m) := h.mono fun _ _ ⟨he, hm⟩ => ⟨he, n, hm⟩
/-- Numbers none of which is less than the one ahead of it. -/
def up : List Int → Bool
  | a :: b :: r => decide (a ≤ b) && up (b :: r)
  | _ => true
section
variable (g : Nat) (w : World)
theorem sorted3_2 (a b c : Int) (_hg : g < w.heap.size) (_c0 : w.cell? ⟨g, 0, none⟩ = some (.int .i64 a)) (c1 : w.cell? ⟨g, 1, none⟩ = some (.int .i64 b)) (c2 : w.cell? ⟨g, 2, none⟩ = some (.int .i64 c)) (h2 : c < b) : Calls Tryd.prog 53 #[.slice (some ⟨g, 0, none⟩) 3 3] w fun e w' => e = .returned (.bool false) ∧ Below w.heap.size w w' := by
  have t2 := Lib.hid (show decide (c < b) = true by simp; omega)
  clear h2
  have q1 : IntKind.i64.wrap 1 = 1 := by decide
  have q0 : IntKind.i64.wrap 0 = 0 := by decide
  go_enter Tryd.func53, Tryd.ntmps53
  go_wp2_with fail
  refine wp_loop_rounds 1 ?_
  rw [rounds_succ]
  go_wp2_with fail
  go_quiet ((go_at_call 67; first | exact quiet_add_l (less_is c b true _ t2.out) | exact quiet_l (less_is c b true _ t2.out)))
  go_wp2_with fail
  go_ret
  refine ⟨rfl, ?_⟩
  repeat (first | exact Below.refl _ _ | assumption | refine below_drewN ?_ _ | refine Below.drew ?_ | refine Below.setCell ?_ (by first | omega | (simp; done) | (simp; omega)) _ | refine Below.alloc ?_ (by first | omega | (simp; done) | (simp; omega)) _)
theorem sorted3_1 (a b c : Int) (_hg : g < w.heap.size) (c0 : w.cell? ⟨g, 0, none⟩ = some (.int .i64 a)) (c1 : w.cell? ⟨g, 1, none⟩ = some (.int .i64 b)) (c2 : w.cell? ⟨g, 2, none⟩ = some (.int .i64 c)) (h2 : b ≤ c) (h1 : b < a) : Calls Tryd.prog 53 #[.slice (some ⟨g, 0, none⟩) 3 3] w fun e w' => e = .returned (.bool false) ∧ Below w.heap.size w w' := by
  have t2 := Lib.hid (show decide (c < b) = false by simp; omega)
  have t1 := Lib.hid (show decide (b < a) = true by simp; omega)
  clear h2 h1
  have q1 : IntKind.i64.wrap 1 = 1 := by decide
  have q0 : IntKind.i64.wrap 0 = 0 := by decide
  go_enter Tryd.func53, Tryd.ntmps53
  go_wp2_with fail
  refine wp_loop_rounds 2 ?_
  rw [rounds_succ]
  go_wp2_with fail
  go_quiet ((go_at_call 67; first | exact quiet_add_l (less_is c b false _ t2.out) | exact quiet_l (less_is c b false _ t2.out)))
  go_wp2_with fail
  rw [rounds_succ]
  go_wp2_with fail
  go_quiet ((go_at_call 67; first | exact quiet_add_l (less_is b a true _ t1.out) | exact quiet_l (less_is b a true _ t1.out)))
  go_wp2_with fail
  go_ret
  refine ⟨rfl, ?_⟩
  repeat (first | exact Below.refl _ _ | assumption | refine below_drewN ?_ _ | refine Below.drew ?_ | refine Below.setCell ?_ (by first | omega | (simp; done) | (simp; omega)) _ | refine Below.alloc ?_ (by first | omega | (simp; done) | (simp; omega)) _)
theorem sorted3_0 (a b c : Int) (_hg : g < w.heap.size) (c0 : w.cell? ⟨g, 0, none⟩ = some (.int .i64 a)) (c1 : w.cell? ⟨g, 1, none⟩ = some (.int .i64 b)) (c2 : w.cell? ⟨g, 2, none⟩ = some (.int .i64 c)) (h2 : b ≤ c) (h1 : a ≤ b) : Calls Tryd.prog 53 #[.slice (some ⟨g, 0, none⟩) 3 3] w fun e w' => e = .returned (.bool true) ∧ Below w.heap.size w w' := by
  have t2 := Lib.hid (show decide (c < b) = false by simp; omega)
  have t1 := Lib.hid (show decide (b < a) = false by simp; omega)
  clear h2 h1
  have q1 : IntKind.i64.wrap 1 = 1 := by decide
  have q0 : IntKind.i64.wrap 0 = 0 := by decide
  go_enter Tryd.func53, Tryd.ntmps53
  go_wp2_with fail
  refine wp_loop_rounds 3 ?_
  rw [rounds_succ]
  go_wp2_with fail
  go_quiet ((go_at_call 67; first | exact quiet_add_l (less_is c b false _ t2.out) | exact quiet_l (less_is c b false _ t2.out)))
  go_wp2_with fail
  rw [rounds_succ]
  go_wp2_with fail
  go_quiet ((go_at_call 67; first | exact quiet_add_l (less_is b a false _ t1.out) | exact quiet_l (less_is b a false _ t1.out)))
  go_wp2_with fail
  rw [rounds_succ]
  go_wp2_with fail
  go_ret
  refine ⟨rfl, ?_⟩
  repeat (first | exact Below.refl _ _ | assumption | refine below_drewN ?_ _ | refine Below.drew ?_ | refine Below.setCell ?_ (by first | omega | (simp; done) | (simp; omega)) _ | refine Below.alloc ?_ (by first | omega | (simp; done) | (simp; omega)) _)
theorem sorted3 (a b c : Int) (hg : g < w.heap.size) (c0 : w.cell? ⟨g, 0, none⟩ = some (.int .i64 a)) (c1 : w.cell? ⟨g, 1, none⟩ = some (.int .i64 b)) (c2 : w.cell? ⟨g, 2, none⟩ = some (.int .i64 c)) : Calls Tryd.prog 53 #[.slice (some ⟨g, 0, none⟩) 3 3] w fun e w' => e = .returned (.bool (up [a, b, c])) ∧ Below w.heap.size w w' := by
  by_cases h2 : b ≤ c
  case neg => rw [show up [a, b, c] = false by simp [up]; omega]; exact sorted3_2 g w a b c hg c0 c1 c2  (by omega)
  by_cases h1 : a ≤ b
  case neg => rw [show up [a, b, c] = false by simp [up]; omega]; exact sorted3_1 g w a b c hg c0 c1 c2 h2 (by omega)
  rw [show up [a, b, c] = true by simp [up]; omega]
  exact sorted3_0 g w a b c hg c0 c1 c2 h2 h1
theorem rise3 (a b c : Int) (v : Bool) (hg : g < w.heap.size) (c0 : w.cell? ⟨g, 0, none⟩ = some (.int .i64 a)) (c1 : w.cell? ⟨g, 1, none⟩ = some (.int .i64 b)) (c2 : w.cell? ⟨g, 2, none⟩ = some (.int .i64 c)) (hv : up [a, b, c] = v) : Calls Tryd.prog 33 #[.slice (some ⟨g, 0, none⟩) 3 3] w fun e w' => e = .returned (.bool v) ∧ Below w.heap.size w w' := by
  have H := Lib.hid (sorted3 g w a b c hg c0 c1 c2)
  rw [hv] at H
  clear hv
  go_enter Tryd.func33, Tryd.ntmps33
  go_wp2_with fail
  refine H.out.mono ?_
  rintro e w1 ⟨rfl, b1⟩
  go_wp2_with fail
  go_ret
  exact ⟨rfl, b1⟩
theorem sorted4_3 (a b c d : Int) (_hg : g < w.heap.size) (_c0 : w.cell? ⟨g, 0, none⟩ = some (.int .i64 a)) (_c1 : w.cell? ⟨g, 1, none⟩ = some (.int .i64 b)) (c2 : w.cell? ⟨g, 2, none⟩ = some (.int .i64 c)) (c3 : w.cell? ⟨g, 3, none⟩ = some (.int .i64 d)) (h3 : d < c) : Calls Tryd.prog 53 #[.slice (some ⟨g, 0, none⟩) 4 4] w fun e w' => e = .returned (.bool false) ∧ Below w.heap.size w w' := by
  have t3 := Lib.hid (show decide (d < c) = true by simp; omega)
  clear h3
  have q2 : IntKind.i64.wrap 2 = 2 := by decide
  have q1 : IntKind.i64.wrap 1 = 1 := by decide
  have q0 : IntKind.i64.wrap 0 = 0 := by decide
  go_enter Tryd.func53, Tryd.ntmps53
  go_wp2_with fail
  refine wp_loop_rounds 1 ?_
  rw [rounds_succ]
  go_wp2_with fail
  go_quiet ((go_at_call 67; first | exact quiet_add_l (less_is d c true _ t3.out) | exact quiet_l (less_is d c true _ t3.out)))
  go_wp2_with fail
  go_ret
  refine ⟨rfl, ?_⟩
  repeat (first | exact Below.refl _ _ | assumption | refine below_drewN ?_ _ | refine Below.drew ?_ | refine Below.setCell ?_ (by first | omega | (simp; done) | (simp; omega)) _ | refine Below.alloc ?_ (by first | omega | (simp; done) | (simp; omega)) _)
theorem sorted4_2 (a b c d : Int) (_hg : g < w.heap.size) (_c0 : w.cell? ⟨g, 0, none⟩ = some (.int .i64 a)) (c1 : w.cell? ⟨g, 1, none⟩ = some (.int .i64 b)) (c2 : w.cell? ⟨g, 2, none⟩ = some (.int .i64 c)) (c3 : w.cell? ⟨g, 3, none⟩ = some (.int .i64 d)) (h3 : c ≤ d) (h2 : c < b) : Calls Tryd.prog 53 #[.slice (some ⟨g, 0, none⟩) 4 4] w fun e w' => e = .returned (.bool false) ∧ Below w.heap.size w w' := by
  have t3 := Lib.hid (show decide (d < c) = false by simp; omega)
  have t2 := Lib.hid (show decide (c < b) = true by simp; omega)
  clear h3 h2
  have q2 : IntKind.i64.wrap 2 = 2 := by decide
  have q1 : IntKind.i64.wrap 1 = 1 := by decide
  have q0 : IntKind.i64.wrap 0 = 0 := by decide
  go_enter Tryd.func53, Tryd.ntmps53
  go_wp2_with fail
  refine wp_loop_rounds 2 ?_
  rw [rounds_succ]
  go_wp2_with fail
  go_quiet ((go_at_call 67; first | exact quiet_add_l (less_is d c false _ t3.out) | exact quiet_l (less_is d c false _ t3.out)))
  go_wp2_with fail
  rw [rounds_succ]
  go_wp2_with fail
  go_quiet ((go_at_call 67; first | exact quiet_add_l (less_is c b true _ t2.out) | exact quiet_l (less_is c b true _ t2.out)))
  go_wp2_with fail
  go_ret
  refine ⟨rfl, ?_⟩
  repeat (first | exact Below.refl _ _ | assumption | refine below_drewN ?_ _ | refine Below.drew ?_ | refine Below.setCell ?_ (by first | omega | (simp; done) | (simp; omega)) _ | refine Below.alloc ?_ (by first | omega | (simp; done) | (simp; omega)) _)
theorem sorted4_1 (a b c d : Int) (_hg : g < w.heap.size) (c0 : w.cell? ⟨g, 0, none⟩ = some (.int .i64 a)) (c1 : w.cell? ⟨g, 1, none⟩ = some (.int .i64 b)) (c2 : w.cell? ⟨g, 2, none⟩ = some (.int .i64 c)) (c3 : w.cell? ⟨g, 3, none⟩ = some (.int .i64 d)) (h3 : c ≤ d) (h2 : b ≤ c) (h1 : b < a) : Calls Tryd.prog 53 #[.slice (some ⟨g, 0, none⟩) 4 4] w fun e w' => e = .returned (.bool false) ∧ Below w.heap.size w w' := by
  have t3 := Lib.hid (show decide (d < c) = false by simp; omega)
  have t2 := Lib.hid (show decide (c < b) = false by simp; omega)
  have t1 := Lib.hid (show decide (b < a) = true by simp; omega)
  clear h3 h2 h1
  have q2 : IntKind.i64.wrap 2 = 2 := by decide
  have q1 : IntKind.i64.wrap 1 = 1 := by decide
  have q0 : IntKind.i64.wrap 0 = 0 := by decide
  go_enter Tryd.func53, Tryd.ntmps53
  go_wp2_with fail
  refine wp_loop_rounds 3 ?_
  rw [rounds_succ]
  go_wp2_with fail
  go_quiet ((go_at_call 67; first | exact quiet_add_l (less_is d c false _ t3.out) | exact quiet_l (less_is d c false _ t3.out)))
  go_wp2_with fail
  rw [rounds_succ]
  go_wp2_with fail
  go_quiet ((go_at_call 67; first | exact quiet_add_l (less_is c b false _ t2.out) | exact quiet_l (less_is c b false _ t2.out)))
  go_wp2_with fail
  rw [rounds_succ]
  go_wp2_with fail
  go_quiet ((go_at_call 67; first | exact quiet_add_l (less_is b a true _ t1.out) | exact quiet_l (less_is b a true _ t1.out)))
  go_wp2_with fail
  go_ret
  refine ⟨rfl, ?_⟩
  repeat (first | exact Below.refl _ _ | assumption | refine below_drewN ?_ _ | refine Below.drew ?_ | refine Below.setCell ?_ (by first | omega | (simp; done) | (simp; omega)) _ | refine Below.alloc ?_ (by first | omega | (simp; done) | (simp; omega)) _)
theorem sorted4_0 (a b c d : Int) (_hg : g < w.heap.size) (c0 : w.cell? ⟨g, 0, none⟩ = some (.int .i64 a)) (c1 : w.cell? ⟨g, 1, none⟩ = some (.int .i64 b)) (c2 : w.cell? ⟨g, 2, none⟩ = some (.int .i64 c)) (c3 : w.cell? ⟨g, 3, none⟩ = some (.int .i64 d)) (h3 : c ≤ d) (h2 : b ≤ c) (h1 : a ≤ b) : Calls Tryd.prog 53 #[.slice (some ⟨g, 0, none⟩) 4 4] w fun e w' => e = .returned (.bool true) ∧ Below w.heap.size w w' := by
  have t3 := Lib.hid (show decide (d < c) = false by simp; omega)
  have t2 := Lib.hid (show decide (c < b) = false by simp; omega)
  have t1 := Lib.hid (show decide (b < a) = false by simp; omega)
  clear h3 h2 h1
  have q2 : IntKind.i64.wrap 2 = 2 := by decide
  have q1 : IntKind.i64.wrap 1 = 1 := by decide
  have q0 : IntKind.i64.wrap 0 = 0 := by decide
  go_enter Tryd.func53, Tryd.ntmps53
  go_wp2_with fail
  refine wp_loop_rounds 4 ?_
  rw [rounds_succ]
  go_wp2_with fail
  go_quiet ((go_at_call 67; first | exact quiet_add_l (less_is d c false _ t3.out) | exact quiet_l (less_is d c false _ t3.out)))
  go_wp2_with fail
  rw [rounds_succ]
  go_wp2_with fail
  go_quiet ((go_at_call 67; first | exact quiet_add_l (less_is c b false _ t2.out) | exact quiet_l (less_is c b false _ t2.out)))
  go_wp2_with fail
  rw [rounds_succ]
  go_wp2_with fail
  go_quiet ((go_at_call 67; first | exact quiet_add_l (less_is b a false _ t1.out) | exact quiet_l (less_is b a false _ t1.out)))
  go_wp2_with fail
  rw [rounds_succ]
  go_wp2_with fail
  go_ret
  refine ⟨rfl, ?_⟩
  repeat (first | exact Below.refl _ _ | assumption | refine below_drewN ?_ _ | refine Below.drew ?_ | refine Below.setCell ?_ (by first | omega | (simp; done) | (simp; omega)) _ | refine Below.alloc ?_ (by first | omega | (simp; done) | (simp; omega)) _)
theorem sorted4 (a b c d : Int) (hg : g < w.heap.size) (c0 : w.cell? ⟨g, 0, none⟩ = some (.int .i64 a)) (c1 : w.cell? ⟨g, 1, none⟩ = some (.int .i64 b)) (c2 : w.cell? ⟨g, 2, none⟩ = some (.int .i64 c)) (c3 : w.cell? ⟨g, 3, none⟩ = some (.int .i64 d)) : Calls Tryd.prog 53 #[.slice (some ⟨g, 0, none⟩) 4 4] w fun e w' => e = .returned (.bool (up [a, b, c, d])) ∧ Below w.heap.size w w' := by
  by_cases h3 : c ≤ d
  case neg => rw [show up [a, b, c, d] = false by simp [up]; omega]; exact sorted4_3 g w a b c d hg c0 c1 c2 c3  (by omega)
  by_cases h2 : b ≤ c
  case neg => rw [show up [a, b, c, d] = false by simp [up]; omega]; exact sorted4_2 g w a b c d hg c0 c1 c2 c3 h3 (by omega)
  by_cases h1 : a ≤ b
  case neg => rw [show up [a, b, c, d] = false by simp [up]; omega]; exact sorted4_1 g w a b c d hg c0 c1 c2 c3 h3 h2 (by omega)
  rw [show up [a, b, c, d] = true by simp [up]; omega]
  exact sorted4_0 g w a b c d hg c0 c1 c2 c3 h3 h2 h1
theorem rise4 (a b c d : Int) (v : Bool) (hg : g < w.heap.size) (c0 : w.cell? ⟨g, 0, none⟩ = some (.int .i64 a)) (c1 : w.cell? ⟨g, 1, none⟩ = some (.int .i64 b)) (c2 : w.cell? ⟨g, 2, none⟩ = some (.int .i64 c)) (c3 : w.cell? ⟨g, 3, none⟩ = some (.int .i64 d)) (hv : up [a, b, c, d] = v) : Calls Tryd.prog 33 #[.slice (some ⟨g, 0, none⟩) 4 4] w fun e w' => e = .returned (.bool v) ∧ Below w.heap.size w w' := by
  have H := Lib.hid (sorted4 g w a b c d hg c0 c1 c2 c3)
  rw [hv] at H
  clear hv
  go_enter Tryd.func33, Tryd.ntmps33
  go_wp2_with fail
  refine H.out.mono ?_
  rintro e w1 ⟨rfl, b1⟩
  go_wp2_with fail
  go_ret
  exact ⟨rfl, b1⟩
end
end Go.Proofs.YthlbockphdbpkaaDoor
namespace Go.Proofs.YthlbockphdbpkaaDoor
open Go.RowKit
/-- The variable holds just these strings. -/
def StrsAre (P : Program) (w : World) (name : String) (ss : List (List UInt8)) : Prop := w.var? P name = some (ss.map fun s => Value.string ⟨s.toArray⟩).toArray
theorem StrsAre.cell {P : Program} {W : World} {name : String} {ss : List (List UInt8)} {g : Nat} (h : StrsAre P W name ss) (hg : P.globalNamed name = some g) (i : Nat) (s : List UInt8) (hi : ss[i]? = some s) :
    W.cell? ⟨g, i, none⟩ = some (.string ⟨s.toArray⟩) := by
  rw [World.var?_cell hg h i]
  simp [hi]
theorem StrsAre.below {P : Program} {w w' : World} {name : String} {ss : List (List UInt8)} (h : StrsAre P w name ss) (hb : Below w.heap.size w w') : StrsAre P w' name ss := by
  unfold StrsAre World.var? at *
  cases hg : P.globalNamed name with
  | none => simp [hg] at h
  | some g =>
    simp only [hg, Option.bind_some] at h ⊢
    have hlt : g < w.heap.size := by
      rcases Nat.lt_or_ge g w.heap.size with h' | h'
      · exact h'
      · rw [Array.getElem?_eq_none h'] at h; simp at h
    rw [hb.block g hlt]
    exact h
end Go.Proofs.YthlbockphdbpkaaDoor
namespace Go.Proofs.YthlbockphdbpkaaDoor
open Go.RowKit
theorem aidx (S : ByteArray) (kd : IntKind) (k : Nat) (hk : k < S.size) (W : World) : (Instr.index 9 (.string S) (.int kd (k : Int))).run Tryd.prog W = .ok (.int .u8 (S[k].toNat : Int)) W := by
  rw [run_index_string (P := Tryd.prog) W 9 S kd k Tryd.underlying9, dif_pos ⟨by omega, by omega⟩]
  rfl
theorem aret_bool {a b : Bool} (h : a = b) : Ending.returned (.bool a) = .returned (.bool b) := by rw [h]
theorem adigit_any (c : UInt8) (w : World) : Calls Tryd.prog 90 #[.int .u8 (c.toNat : Int)] w fun e w' => e = .returned (.bool (Fm.isd c)) ∧ w = w' := by
  by_cases h1 : c.toNat < 48
  · have HE := Lib.hid (show Fm.isd c = false by unfold Fm.isd; simp; omega)
    have t1 : decide (48 ≤ (c.toNat : Int)) = false := by simp; omega
    clear h1
    go_enter Tryd.func90, Tryd.ntmps90
    go_wp2_with fail
    go_ret
    exact ⟨aret_bool HE.out.symm, rfl⟩
  · by_cases h2 : c.toNat ≤ 57
    · have HE := Lib.hid (show Fm.isd c = true by unfold Fm.isd; simp; omega)
      have t1 : 48 ≤ (c.toNat : Int) := by omega
      have t2 : (c.toNat : Int) ≤ 57 := by omega
      clear h1 h2
      go_enter Tryd.func90, Tryd.ntmps90
      go_wp2_with fail
      go_ret
      exact ⟨aret_bool HE.out.symm, rfl⟩
    · have HE := Lib.hid (show Fm.isd c = false by unfold Fm.isd; simp; omega)
      have t1 : 48 ≤ (c.toNat : Int) := by omega
      have t2 : decide ((c.toNat : Int) ≤ 57) = false := by simp; omega
      clear h1 h2
      go_enter Tryd.func90, Tryd.ntmps90
      go_wp2_with fail
      go_ret
      exact ⟨aret_bool HE.out.symm, rfl⟩
theorem adigit_is (c : UInt8) (v : Bool) (w : World) (h : Fm.isd c = v) : Calls Tryd.prog 90 #[.int .u8 (c.toNat : Int)] w fun e w' => e = .returned (.bool v) ∧ w = w' := by
  subst h
  exact adigit_any c w
theorem sg_yes {c : UInt8} (h : (97 ≤ (c.toNat : Int) ∧ (c.toNat : Int) ≤ 122) ∨ (65 ≤ (c.toNat : Int) ∧ (c.toNat : Int) ≤ 90) ∨ (48 ≤ (c.toNat : Int) ∧ (c.toNat : Int) ≤ 57) ∨ (c.toNat : Int) = 43 ∨ (c.toNat : Int) = 45) : true = Fm.sg c := by
  symm
  unfold Fm.sg
  rw [decide_eq_true_eq]
  omega
theorem sg_no {c : UInt8} (h : ¬ ((97 ≤ (c.toNat : Int) ∧ (c.toNat : Int) ≤ 122) ∨ (65 ≤ (c.toNat : Int) ∧ (c.toNat : Int) ≤ 90) ∨ (48 ≤ (c.toNat : Int) ∧ (c.toNat : Int) ≤ 57) ∨ (c.toNat : Int) = 43 ∨ (c.toNat : Int) = 45)) : false = Fm.sg c := by
  symm
  unfold Fm.sg
  rw [decide_eq_false_iff_not]
  omega
theorem sign_any (c : UInt8) (w : World) : Calls Tryd.prog 79 #[.int .u8 (c.toNat : Int)] w fun e w' => e = .returned (.bool (Fm.sg c)) ∧ w = w' := by
  have hb := c.toNat_lt
  cases hd : Fm.isd c with
  | true =>
    have HD := Lib.hid hd
    have h1 : 48 ≤ (c.toNat : Int) := by have := of_decide_eq_true hd; omega
    have h2 : (c.toNat : Int) ≤ 57 := by have := of_decide_eq_true hd; omega
    clear hd
    go_enter Tryd.func79, Tryd.ntmps79
    go_wp2_with (go_at_call 90; refine (adigit_is c true _ HD.out).mono ?_; rintro e w' ⟨rfl, rfl⟩)
    go_ret
    exact ⟨aret_bool (sg_yes (by omega)), rfl⟩
  | false =>
    have HD := Lib.hid hd
    have hx : ¬ (48 ≤ c.toNat ∧ c.toNat ≤ 57) := of_decide_eq_false hd
    have HX := Lib.hid hx
    clear hd hx
    by_cases e1 : c.toNat = 43
    · obtain rfl : c = 43 := UInt8.toNat_inj.1 e1
      clear HX hb e1
      go_enter Tryd.func79, Tryd.ntmps79
      go_wp2_with (go_at_call 90; refine (adigit_is 43 false _ HD.out).mono ?_; rintro e w' ⟨rfl, rfl⟩)
      go_ret
      exact ⟨rfl, rfl⟩
    · by_cases e2 : c.toNat = 45
      · obtain rfl : c = 45 := UInt8.toNat_inj.1 e2
        clear HX hb e1 e2
        go_enter Tryd.func79, Tryd.ntmps79
        go_wp2_with (go_at_call 90; refine (adigit_is 45 false _ HD.out).mono ?_; rintro e w' ⟨rfl, rfl⟩)
        go_ret
        exact ⟨rfl, rfl⟩
      · have t1 : ((c.toNat : Int) == 43) = false := by rw [beq_eq_false_iff_ne]; omega
        have t2 : ((c.toNat : Int) == 45) = false := by rw [beq_eq_false_iff_ne]; omega
        have E1 := Lib.hid e1
        have E2 := Lib.hid e2
        clear e1 e2
        go_enter Tryd.func79, Tryd.ntmps79
        go_wp2_with (go_at_call 90; refine (adigit_is c false _ HD.out).mono ?_; rintro e w' ⟨rfl, rfl⟩)
        all_goals
          go_ret
          have h1 := HX.out
          have h2 := E1.out
          have h3 := E2.out
          exact ⟨aret_bool (by first | exact sg_yes (by omega) | exact sg_no (by omega)), rfl⟩
theorem sign_is (c : UInt8) (v : Bool) (w : World) (h : Fm.sg c = v) : Calls Tryd.prog 79 #[.int .u8 (c.toNat : Int)] w fun e w' => e = .returned (.bool v) ∧ w = w' := by
  subst h
  exact sign_any c w
theorem all_snoc' (l : List UInt8) (c : UInt8) : Fm.sgs (l ++ [c]) = (Fm.sgs l && Fm.sg c) := by simp [Fm.sgs]
theorem take_snoc' (s : ByteArray) (k : Nat) (h : k < s.size) : s.data.toList.take (k + 1) = s.data.toList.take k ++ [s[k]] := by
  rw [List.take_succ_eq_append_getElem (by simpa using h)]; rfl
theorem take_all' (s : ByteArray) : s.data.toList.take s.size = s.data.toList := List.take_of_length_le (by simp)
theorem sgs_stop {s : ByteArray} {k : Nat} (h : k < s.size) (hc : Fm.sg s[k] = false) : Fm.sgs s.data.toList = false := by
  unfold Fm.sgs
  rw [List.all_eq_false]
  refine ⟨s[k], ?_, by rw [hc]; simp⟩
  have : s.data.toList[k]? = some s[k] := Lib.data_getElem? s k h
  exact List.mem_of_getElem? this
set_option maxHeartbeats 1000000 in
theorem signs_any (A : Option Addr) (n c : Nat) (L : List ByteArray) (hl : L.length = n) (hn : n ≤ 4294967296) (hL : ∀ i, i < n → (L.getD i ByteArray.empty).size ≤ 4294967296)
    (w : World) (B : Nat) (hB : B ≤ w.heap.size) (hS : Sl w B A n (fun i => .string (L.getD i ByteArray.empty))) :
    Calls Tryd.prog 71 #[.slice A n c] w fun e w' => e = .returned (.bool (L.all fun s => Fm.sgs s.data.toList)) ∧ Below w.heap.size w w' := by
  have HL := Lib.hid hl
  have HZ := Lib.hid hL
  clear hl hL
  go_enter Tryd.func71, Tryd.ntmps71
  go_wp2_with fail
  go_loopw [8] (fun i wr => ∃ k : Nat, k ≤ n ∧ i = .int .i64 k ∧ (L.take k).all (fun s => Fm.sgs s.data.toList) = true ∧ Below w.heap.size w wr) (fun i _ => n - (intOf i).toNat)
  case atStart => exact ⟨0, Nat.zero_le _, rfl, rfl, Below.refl _ _⟩
  case round =>
    obtain ⟨k, hk, rfl, hG, hbw⟩ := hrel
    by_cases hlt : k < n
    · obtain ⟨ad, rfl, hal, hc⟩ := (hS.below (hbw.mono hB)).at_ hlt
      change wr.cell? (ad.add k) = some (.string (L.getD k ByteArray.empty)) at hc
      have hz := HZ.out k hlt
      have hkl : k < L.length := by rw [HL.out]; exact hlt
      have hd : L.take (k + 1) = L.take k ++ [L.getD k ByteArray.empty] := by
        rw [List.take_succ_eq_append_getElem hkl, List.getD_eq_getElem?_getD, List.getElem?_eq_getElem hkl]
        rfl
      have hm : L.getD k ByteArray.empty ∈ L := by
        rw [List.getD_eq_getElem?_getD, List.getElem?_eq_getElem hkl]
        exact List.getElem_mem hkl
      have hno : ∀ X, L.getD k ByteArray.empty = X → Fm.sgs X.data.toList = false → false = L.all (fun s => Fm.sgs s.data.toList) := by
        intro X hX h
        subst hX
        symm
        rw [List.all_eq_false]
        exact ⟨_, hm, by rw [h]; simp⟩
      have hyes : ∀ X, L.getD k ByteArray.empty = X → Fm.sgs X.data.toList = true → (L.take (k + 1)).all (fun s => Fm.sgs s.data.toList) = true := by
        intro X hX h
        rw [hd, hX, List.all_append, hG]
        simp [h]
      have HN := Lib.hid (hno _ rfl)
      have HY := Lib.hid (hyes _ rfl)
      clear hG hno hyes hd hm hkl
      generalize L.getD k ByteArray.empty = X at *
      go_wp2_with fail
      go_loopw [14] (fun i wq => ∃ j : Nat, j ≤ X.size ∧ i = .int .i64 j ∧ Fm.sgs (X.data.toList.take j) = true ∧ Below w.heap.size w wq) (fun i _ => X.size - (intOf i).toNat)
      case atStart => exact ⟨0, Nat.zero_le _, rfl, rfl, hbw⟩
      case round =>
        obtain ⟨j, hj, rfl, hJ, hbj⟩ := hrel
        by_cases hjt : j < X.size
        · have hi0 := aidx X .i64 j hjt
          cases hs : Fm.sg X[j] with
          | true =>
            have HJ := Lib.hid (show Fm.sgs (X.data.toList.take (j + 1)) = true by rw [take_snoc' X j hjt, all_snoc', hJ, hs]; rfl)
            have HS := Lib.hid hs
            clear hJ hs
            go_wp2_with fail
            refine (sign_is X[j] true _ HS.out).mono ?_
            rintro e w' ⟨rfl, rfl⟩
            go_wp2_with fail
            go_roundw
            case rel => exact ⟨j + 1, by omega, by go_num, HJ.out, hbj⟩
            case measure => simp [intOf]; omega
          | false =>
            have HJ := Lib.hid (HN.out (sgs_stop hjt hs))
            have HS := Lib.hid hs
            clear hJ hs
            go_wp2_with fail
            refine (sign_is X[j] false _ HS.out).mono ?_
            rintro e w' ⟨rfl, rfl⟩
            go_wp2_with fail
            go_ret
            exact ⟨aret_bool HJ.out, hbj⟩
        · obtain rfl : j = X.size := by omega
          have HJ := Lib.hid (HY.out (by rw [take_all'] at hJ; exact hJ))
          clear hJ
          go_wp2_with fail
          go_roundw
          case rel => exact ⟨k + 1, by omega, by go_num, HJ.out, hbj⟩
          case measure => simp [intOf]; omega
    · obtain rfl : k = n := by omega
      have HG := Lib.hid (show true = L.all (fun s => Fm.sgs s.data.toList) by rw [List.take_of_length_le (by rw [HL.out]; exact Nat.le_refl _)] at hG; exact hG.symm)
      clear hG
      go_wp2_with fail
      go_ret
      exact ⟨aret_bool HG.out, hbw⟩
end Go.Proofs.YthlbockphdbpkaaDoor
namespace Go.Proofs.YthlbockphdbpkaaDoor
open Go.RowKit
def markL : List (List UInt8) := [[37, 115], [37, 122], [47]]
/-- What the calls below read of package-level variables: the marks, and the length up to which the library looks for a byte by itself. -/
def Marks (w : World) : Prop := StrsAre Tryd.prog w "solstice/abbr.marks" markL
def Mxa (w : World) : Prop := ∃ m : Int, w.cell? ⟨1, 0, none⟩ = some (.int .i64 m)
theorem gMarks : Tryd.prog.globalNamed "solstice/abbr.marks" = some 0 := by kernel_rfl
theorem Marks.m0 {w : World} (h : Marks w) : w.cell? ⟨0, 0, none⟩ = some (.string ⟨#[37, 115]⟩) := StrsAre.cell h gMarks 0 _ rfl
theorem Marks.m1 {w : World} (h : Marks w) : w.cell? ⟨0, 1, none⟩ = some (.string ⟨#[37, 122]⟩) := StrsAre.cell h gMarks 1 _ rfl
theorem Marks.m2 {w : World} (h : Marks w) : w.cell? ⟨0, 2, none⟩ = some (.string ⟨#[47]⟩) := StrsAre.cell h gMarks 2 _ rfl
theorem Marks.below {w w' : World} (h : Marks w) (hb : Below w.heap.size w w') : Marks w' := StrsAre.below h hb
theorem Mxa.below {w w' : World} (h : Mxa w) (hb : Below w.heap.size w w') : Mxa w' := by
  obtain ⟨m, hm⟩ := h
  exact ⟨m, (hb.cell (lt_cell hm)).trans hm⟩
theorem acut_is (s sep a b : ByteArray) (ok : Bool) (w : World) (hM : Mxa w) (hs : s.size < 4294967281) (h1 : (⟨(Lib.cut s.data.toList sep.data.toList).1.toArray⟩ : ByteArray) = a) (h2 : (⟨(Lib.cut s.data.toList sep.data.toList).2.1.toArray⟩ : ByteArray) = b) (h3 : (Lib.cut s.data.toList sep.data.toList).2.2 = ok) :
    Calls Tryd.prog 99 #[.string s, .string sep] w fun e w' => e = .returned (.tuple #[.string a, .string b, .bool ok]) ∧ Below w.heap.size w w' := by
  subst h1 h2 h3
  obtain ⟨m, hm⟩ := hM
  exact (Tryd.strings_Cut s sep m w hs hm).mono fun _ _ ⟨he, n, hw⟩ => ⟨he, by rw [hw]; exact below_drewN (Below.refl _ _) n⟩
theorem sl_one {W : World} {g : Nat} {s : ByteArray} (hg : g < W.heap.size) (hc : W.cell? ⟨g, 0, none⟩ = some (.string s)) : Sl W W.heap.size (some ⟨g, 0, none⟩) 1 (fun i => .string ([s].getD i ByteArray.empty)) := by
  intro _
  refine ⟨⟨g, 0, none⟩, rfl, hg, fun i hi => ?_⟩
  obtain rfl : i = 0 := by omega
  rw [addr_at]
  exact hc
theorem sl_two {W : World} {g : Nat} {s t : ByteArray} (hg : g < W.heap.size) (hc : W.cell? ⟨g, 0, none⟩ = some (.string s)) (hd : W.cell? ⟨g, 1, none⟩ = some (.string t)) : Sl W W.heap.size (some ⟨g, 0, none⟩) 2 (fun i => .string ([s, t].getD i ByteArray.empty)) := by
  intro _
  refine ⟨⟨g, 0, none⟩, rfl, hg, fun i hi => ?_⟩
  have hi2 : i = 0 ∨ i = 1 := by omega
  rcases hi2 with rfl | rfl
  · rw [addr_at]
    exact hc
  · rw [addr_at]
    exact hd
theorem signs_1 (s : ByteArray) (v : Bool) (g : Nat) (W : World) (hs : s.size ≤ 4294967296) (hg : g < W.heap.size) (hc : W.cell? ⟨g, 0, none⟩ = some (.string s)) (hv : Fm.sgs s.data.toList = v) :
    Calls Tryd.prog 71 #[.slice (some ⟨g, 0, none⟩) 1 1] W fun e w' => e = .returned (.bool v) ∧ Below W.heap.size W w' := by
  have h := signs_any (some ⟨g, 0, none⟩) 1 1 [s] rfl (by omega) (fun i hi => by
    obtain rfl : i = 0 := by omega
    exact hs) W _ (Nat.le_refl _) (sl_one hg hc)
  have e : [s].all (fun s => Fm.sgs s.data.toList) = v := by simpa using hv
  rw [e] at h
  exact h
theorem signs_2 (s t : ByteArray) (v : Bool) (g : Nat) (W : World) (hs : s.size ≤ 4294967296) (ht : t.size ≤ 4294967296) (hg : g < W.heap.size) (hc : W.cell? ⟨g, 0, none⟩ = some (.string s)) (hd : W.cell? ⟨g, 1, none⟩ = some (.string t)) (hv : (Fm.sgs s.data.toList && Fm.sgs t.data.toList) = v) :
    Calls Tryd.prog 71 #[.slice (some ⟨g, 0, none⟩) 2 2] W fun e w' => e = .returned (.bool v) ∧ Below W.heap.size W w' := by
  have h := signs_any (some ⟨g, 0, none⟩) 2 2 [s, t] rfl (by omega) (fun i hi => by
    have hi2 : i = 0 ∨ i = 1 := by omega
    rcases hi2 with rfl | rfl
    · exact hs
    · exact ht) W _ (Nat.le_refl _) (sl_two hg hc hd)
  have e : [s, t].all (fun s => Fm.sgs s.data.toList) = v := by simpa using hv
  rw [e] at h
  exact h
theorem toList_ne {S : ByteArray} {l : List UInt8} (h : S.data.toList ≠ l) : (S.toList == l) = false ∧ ¬ S.toList = l := by
  rw [ByteArray.toList_eq]
  exact ⟨by rw [beq_eq_false_iff_ne]; exact h, h⟩
theorem letter_any (s : ByteArray) (w : World) : Calls Tryd.prog 56 #[.string s] w fun e w' => e = .returned (.bool (Fm.ltr s.data.toList)) ∧ Below w.heap.size w w' := by
  have hz : s.data.toList.length = s.size := by simp
  by_cases h1 : s.size ≤ 32
  · by_cases h2 : s.data.toList = [45]
    · obtain rfl : s = ⟨#[45]⟩ := ByteArray.ext (Array.toList_inj.1 h2)
      clear h2 hz h1
      go_enter Tryd.func56, Tryd.ntmps56
      go_wp2_with fail
      go_ret
      exact ⟨rfl, Below.refl _ _⟩
    · obtain ⟨n1, n2⟩ := toList_ne h2
      obtain ⟨v, hv⟩ : ∃ v, Fm.sgs s.data.toList = v := ⟨_, rfl⟩
      have HE := Lib.hid (show v = Fm.ltr s.data.toList by unfold Fm.ltr; rw [hv, hz]; simp [h1, h2])
      have HV := Lib.hid hv
      clear hv h2 hz
      go_enter Tryd.func56, Tryd.ntmps56
      go_wp2_with fail
      refine (signs_1 s v w.heap.size _ (by omega) (by simp) (by go_simp) HV.out).mono ?_
      rintro e w1 ⟨rfl, b1⟩
      have a1 : Below w.heap.size w w1 := ((Below.refl _ _).alloc (Nat.le_refl _) _).trans (b1.mono (by simp))
      go_wp2_with fail
      go_ret
      exact ⟨aret_bool HE.out, a1⟩
  · have HE := Lib.hid (show false = Fm.ltr s.data.toList by unfold Fm.ltr; rw [hz]; simp [h1])
    have h1' : 32 < s.size := by omega
    clear hz h1
    go_enter Tryd.func56, Tryd.ntmps56
    go_wp2_with fail
    go_ret
    exact ⟨aret_bool HE.out, Below.refl _ _⟩
theorem letter_is (s : ByteArray) (v : Bool) (w : World) (h : Fm.ltr s.data.toList = v) : Calls Tryd.prog 56 #[.string s] w fun e w' => e = .returned (.bool v) ∧ Below w.heap.size w w' := by
  subst h
  exact letter_any s w
theorem cletter_yes (s : ByteArray) (w : World) (h : Fm.ltr s.data.toList = true) : Calls Tryd.prog 36 #[.string s] w fun e w' => e = .returned (.int .i64 0) ∧ Below w.heap.size w w' := by
  have H := Lib.hid h
  clear h
  go_enter Tryd.func36, Tryd.ntmps36
  go_wp2_with fail
  refine (letter_is s true _ H.out).mono ?_
  rintro e w1 ⟨rfl, b1⟩
  go_wp2_with fail
  go_ret
  exact ⟨rfl, b1⟩
theorem cletter_no (s : ByteArray) (w : World) (h : Fm.ltr s.data.toList = false) : Calls Tryd.prog 36 #[.string s] w fun e w' => e = .returned (.int .i64 2) ∧ Below w.heap.size w w' := by
  have H := Lib.hid h
  clear h
  go_enter Tryd.func36, Tryd.ntmps36
  go_wp2_with fail
  refine (letter_is s false _ H.out).mono ?_
  rintro e w1 ⟨rfl, b1⟩
  go_wp2_with fail
  go_ret
  exact ⟨rfl, b1⟩
theorem sarr0 (a b c : Value) (W : World) : (Instr.index 143 (.agg #[a, b, c]) (.int .i64 0)).run Tryd.prog W = .ok a W := by kernel_rfl
theorem sarr1 (a b c : Value) (W : World) : (Instr.index 143 (.agg #[a, b, c]) (.int .i64 1)).run Tryd.prog W = .ok b W := by kernel_rfl
theorem sarr2 (a b c : Value) (W : World) : (Instr.index 143 (.agg #[a, b, c]) (.int .i64 2)).run Tryd.prog W = .ok c W := by kernel_rfl
/-- What cut answers. -/
def CutR (l : List UInt8) (e : Ending) : Prop := e = .returned (.tuple #[.int .i64 ((Fm.cutF l).1 : Nat), .string ⟨(Fm.cutF l).2.1.toArray⟩, .string ⟨(Fm.cutF l).2.2.toArray⟩])
theorem cutR_of {l : List UInt8} {m : Nat} {a b : ByteArray} (h : Fm.cutF l = (m, a.data.toList, b.data.toList)) : CutR l (.returned (.tuple #[.int .i64 (m : Int), .string a, .string b])) := by
  unfold CutR
  rw [h]
set_option maxHeartbeats 1000000 in
theorem fcut_any (s : ByteArray) (w : World) (hK : Marks w) (hM : Mxa w) (hs : s.size ≤ 1000) : Calls Tryd.prog 97 #[.string s] w fun e w' => CutR s.data.toList e ∧ Below w.heap.size w w' := by
  have m0 := hK.m0
  have m1 := hK.m1
  have m2 := hK.m2
  have l0 := lt_cell m0
  have i0 := sarr0 (.string ⟨#[37, 115]⟩) (.string ⟨#[37, 122]⟩) (.string ⟨#[47]⟩)
  have i1 := sarr1 (.string ⟨#[37, 115]⟩) (.string ⟨#[37, 122]⟩) (.string ⟨#[47]⟩)
  have i2 := sarr2 (.string ⟨#[37, 115]⟩) (.string ⟨#[37, 122]⟩) (.string ⟨#[47]⟩)
  have HM := Lib.hid hM
  clear hK hM
  obtain ⟨a0_, ha0⟩ : ∃ a, (⟨(Lib.cut s.data.toList [37, 115]).1.toArray⟩ : ByteArray) = a := ⟨_, rfl⟩
  obtain ⟨b0_, hb0⟩ : ∃ b, (⟨(Lib.cut s.data.toList [37, 115]).2.1.toArray⟩ : ByteArray) = b := ⟨_, rfl⟩
  have ea0 : a0_.data.toList = (Lib.cut s.data.toList [37, 115]).1 := by rw [← ha0]
  have eb0 : b0_.data.toList = (Lib.cut s.data.toList [37, 115]).2.1 := by rw [← hb0]
  cases h0 : (Lib.cut s.data.toList [37, 115]).2.2 with
  | true =>
    have HE := Lib.hid (cutR_of (show Fm.cutF s.data.toList = (0, a0_.data.toList, b0_.data.toList) by unfold Fm.cutF; rw [if_pos h0, ea0, eb0]))
    have HA0 := Lib.hid ha0
    have HB0 := Lib.hid hb0
    have H0 := Lib.hid h0
    clear ha0 hb0 h0 ea0 eb0
    go_enter Tryd.func97, Tryd.ntmps97
    go_wp2_with fail
    refine wp_loop_rounds 4 ?_
    rw [rounds_succ]
    go_wp2_with fail
    refine (acut_is s ⟨#[37, 115]⟩ a0_ b0_ true _ HM.out (by omega) HA0.out HB0.out H0.out).mono ?_
    rintro e w1 ⟨rfl, b1⟩
    have a1 := b1
    go_wp2_with fail
    go_ret3
    exact ⟨HE.out, a1⟩
  | false =>
    obtain ⟨a1_, ha1⟩ : ∃ a, (⟨(Lib.cut s.data.toList [37, 122]).1.toArray⟩ : ByteArray) = a := ⟨_, rfl⟩
    obtain ⟨b1_, hb1⟩ : ∃ b, (⟨(Lib.cut s.data.toList [37, 122]).2.1.toArray⟩ : ByteArray) = b := ⟨_, rfl⟩
    have ea1 : a1_.data.toList = (Lib.cut s.data.toList [37, 122]).1 := by rw [← ha1]
    have eb1 : b1_.data.toList = (Lib.cut s.data.toList [37, 122]).2.1 := by rw [← hb1]
    cases h1 : (Lib.cut s.data.toList [37, 122]).2.2 with
    | true =>
      have HE := Lib.hid (cutR_of (show Fm.cutF s.data.toList = (1, a1_.data.toList, b1_.data.toList) by unfold Fm.cutF; rw [if_neg (show ¬ (Lib.cut s.data.toList [37, 115]).2.2 = true by rw [h0]; simp), if_pos h1, ea1, eb1]))
      have HA0 := Lib.hid ha0
      have HB0 := Lib.hid hb0
      have H0 := Lib.hid h0
      have HA1 := Lib.hid ha1
      have HB1 := Lib.hid hb1
      have H1 := Lib.hid h1
      clear ha0 hb0 h0 ea0 eb0 ha1 hb1 h1 ea1 eb1
      go_enter Tryd.func97, Tryd.ntmps97
      go_wp2_with fail
      refine wp_loop_rounds 4 ?_
      rw [rounds_succ]
      go_wp2_with fail
      refine (acut_is s ⟨#[37, 115]⟩ a0_ b0_ false _ HM.out (by omega) HA0.out HB0.out H0.out).mono ?_
      rintro e w1 ⟨rfl, b1⟩
      have a1 := b1
      go_wp2_with fail
      rw [rounds_succ]
      go_wp2_with fail
      refine (acut_is s ⟨#[37, 122]⟩ a1_ b1_ true _ (HM.out.below a1) (by omega) HA1.out HB1.out H1.out).mono ?_
      rintro e w2 ⟨rfl, b2⟩
      have a2 := a1.trans (b2.mono a1.size)
      go_wp2_with fail
      go_ret3
      exact ⟨HE.out, a2⟩
    | false =>
      obtain ⟨a2_, ha2⟩ : ∃ a, (⟨(Lib.cut s.data.toList [47]).1.toArray⟩ : ByteArray) = a := ⟨_, rfl⟩
      obtain ⟨b2_, hb2⟩ : ∃ b, (⟨(Lib.cut s.data.toList [47]).2.1.toArray⟩ : ByteArray) = b := ⟨_, rfl⟩
      have ea2 : a2_.data.toList = (Lib.cut s.data.toList [47]).1 := by rw [← ha2]
      have eb2 : b2_.data.toList = (Lib.cut s.data.toList [47]).2.1 := by rw [← hb2]
      cases h2 : (Lib.cut s.data.toList [47]).2.2 with
      | true =>
        have HE := Lib.hid (cutR_of (show Fm.cutF s.data.toList = (2, a2_.data.toList, b2_.data.toList) by unfold Fm.cutF; rw [if_neg (show ¬ (Lib.cut s.data.toList [37, 115]).2.2 = true by rw [h0]; simp), if_neg (show ¬ (Lib.cut s.data.toList [37, 122]).2.2 = true by rw [h1]; simp), if_pos h2, ea2, eb2]))
        have HA0 := Lib.hid ha0
        have HB0 := Lib.hid hb0
        have H0 := Lib.hid h0
        have HA1 := Lib.hid ha1
        have HB1 := Lib.hid hb1
        have H1 := Lib.hid h1
        have HA2 := Lib.hid ha2
        have HB2 := Lib.hid hb2
        have H2 := Lib.hid h2
        clear ha0 hb0 h0 ea0 eb0 ha1 hb1 h1 ea1 eb1 ha2 hb2 h2 ea2 eb2
        go_enter Tryd.func97, Tryd.ntmps97
        go_wp2_with fail
        refine wp_loop_rounds 4 ?_
        rw [rounds_succ]
        go_wp2_with fail
        refine (acut_is s ⟨#[37, 115]⟩ a0_ b0_ false _ HM.out (by omega) HA0.out HB0.out H0.out).mono ?_
        rintro e w1 ⟨rfl, b1⟩
        have a1 := b1
        go_wp2_with fail
        rw [rounds_succ]
        go_wp2_with fail
        refine (acut_is s ⟨#[37, 122]⟩ a1_ b1_ false _ (HM.out.below a1) (by omega) HA1.out HB1.out H1.out).mono ?_
        rintro e w2 ⟨rfl, b2⟩
        have a2 := a1.trans (b2.mono a1.size)
        go_wp2_with fail
        rw [rounds_succ]
        go_wp2_with fail
        refine (acut_is s ⟨#[47]⟩ a2_ b2_ true _ (HM.out.below a2) (by omega) HA2.out HB2.out H2.out).mono ?_
        rintro e w3 ⟨rfl, b3⟩
        have a3 := a2.trans (b3.mono a2.size)
        go_wp2_with fail
        go_ret3
        exact ⟨HE.out, a3⟩
      | false =>
        have HE := Lib.hid (cutR_of (a := s) (b := ⟨#[]⟩) (show Fm.cutF s.data.toList = (3, s.data.toList, []) by unfold Fm.cutF; rw [if_neg (show ¬ (Lib.cut s.data.toList [37, 115]).2.2 = true by rw [h0]; simp), if_neg (show ¬ (Lib.cut s.data.toList [37, 122]).2.2 = true by rw [h1]; simp), if_neg (show ¬ (Lib.cut s.data.toList [47]).2.2 = true by rw [h2]; simp)]))
        have HA0 := Lib.hid ha0
        have HB0 := Lib.hid hb0
        have H0 := Lib.hid h0
        have HA1 := Lib.hid ha1
        have HB1 := Lib.hid hb1
        have H1 := Lib.hid h1
        have HA2 := Lib.hid ha2
        have HB2 := Lib.hid hb2
        have H2 := Lib.hid h2
        clear ha0 hb0 h0 ea0 eb0 ha1 hb1 h1 ea1 eb1 ha2 hb2 h2 ea2 eb2
        go_enter Tryd.func97, Tryd.ntmps97
        go_wp2_with fail
        refine wp_loop_rounds 4 ?_
        rw [rounds_succ]
        go_wp2_with fail
        refine (acut_is s ⟨#[37, 115]⟩ a0_ b0_ false _ HM.out (by omega) HA0.out HB0.out H0.out).mono ?_
        rintro e w1 ⟨rfl, b1⟩
        have a1 := b1
        go_wp2_with fail
        rw [rounds_succ]
        go_wp2_with fail
        refine (acut_is s ⟨#[37, 122]⟩ a1_ b1_ false _ (HM.out.below a1) (by omega) HA1.out HB1.out H1.out).mono ?_
        rintro e w2 ⟨rfl, b2⟩
        have a2 := a1.trans (b2.mono a1.size)
        go_wp2_with fail
        rw [rounds_succ]
        go_wp2_with fail
        refine (acut_is s ⟨#[47]⟩ a2_ b2_ false _ (HM.out.below a2) (by omega) HA2.out HB2.out H2.out).mono ?_
        rintro e w3 ⟨rfl, b3⟩
        have a3 := a2.trans (b3.mono a2.size)
        go_wp2_with fail
        rw [rounds_succ]
        go_wp2_with fail
        go_ret3
        exact ⟨HE.out, a3⟩
end Go.Proofs.YthlbockphdbpkaaDoor
namespace Go.Proofs.YthlbockphdbpkaaDoor
open Go.RowKit
theorem fcut_is (s : ByteArray) (m : Nat) (a b : ByteArray) (w : World) (hK : Marks w) (hM : Mxa w) (hs : s.size ≤ 1000) (h : Fm.cutF s.data.toList = (m, a.data.toList, b.data.toList)) :
    Calls Tryd.prog 97 #[.string s] w fun e w' => e = .returned (.tuple #[.int .i64 (m : Int), .string a, .string b]) ∧ Below w.heap.size w w' :=
  (fcut_any s w hK hM hs).mono fun _ _ ⟨he, hb⟩ => ⟨by unfold CutR at he; rw [h] at he; exact he, hb⟩
theorem ne_empty {S : ByteArray} (h : S.data.toList ≠ []) : S.toList.isEmpty = false := by
  rw [ByteArray.toList_eq]
  simpa using h
theorem fmt_of {s : ByteArray} {m : Nat} {a b : ByteArray} (h : Fm.cutF s.data.toList = (m, a.data.toList, b.data.toList)) (h1 : 1 ≤ s.size) (h2 : s.size ≤ 32) : Fm.fmt s.data.toList = Fm.fits m a.data.toList b.data.toList := by
  have hz : s.data.toList.length = s.size := by simp
  unfold Fm.fmt
  rw [h, hz]
  simp [h1, h2]
/-- The parts of a format lie within it. -/
theorem cut_small {s : ByteArray} {m : Nat} {a b : ByteArray} (h : Fm.cutF s.data.toList = (m, a.data.toList, b.data.toList)) : a.size ≤ s.size ∧ b.size ≤ s.size := by
  have hz : s.data.toList.length = s.size := by simp
  have ha : a.data.toList.length = a.size := by simp
  have hb : b.data.toList.length = b.size := by simp
  obtain ⟨m', a', b', hc, hw⟩ := Fm.cutF_cases s.data.toList
  rw [h] at hc
  injection hc with e1 e2
  injection e2 with e2 e3
  subst e1 e2 e3
  rcases hw with ⟨_, e⟩ | ⟨_, e⟩ | ⟨_, e⟩ | ⟨_, e, e2⟩
  · have := congrArg List.length e
    simp only [List.length_append, List.length_cons, List.length_nil] at this
    omega
  · have := congrArg List.length e
    simp only [List.length_append, List.length_cons, List.length_nil] at this
    omega
  · have := congrArg List.length e
    simp only [List.length_append, List.length_cons, List.length_nil] at this
    omega
  · have := congrArg List.length e
    rw [e2] at hb
    simp only [List.length_nil] at hb
    omega
/-- isFormat of parts that are no two: any signs. -/
theorem format_m (s a b : ByteArray) (m : Nat) (v : Bool) (w : World) (hK : Hid (Marks w)) (hM : Hid (Mxa w)) (h1 : 1 ≤ s.size) (h2 : s.size ≤ 32) (hc : Hid (Fm.cutF s.data.toList = (m, a.data.toList, b.data.toList))) (hm : (((m : Nat) : Int) == 2) = false) (ha : a.size ≤ 32) (hb : b.size ≤ 32) (hv : Hid ((Fm.sgs a.data.toList && Fm.sgs b.data.toList) = v)) :
    Calls Tryd.prog 95 #[.string s] w fun e w' => e = .returned (.bool v) ∧ Below w.heap.size w w' := by
  go_enter Tryd.func95, Tryd.ntmps95
  go_wp2_with fail
  refine (fcut_is s m a b _ hK.out hM.out (by omega) hc.out).mono ?_
  rintro e w1 ⟨rfl, b1⟩
  go_wp2_with fail
  refine (signs_2 a b v w1.heap.size _ (by omega) (by omega) (by simp) (by go_simp) (by go_simp) hv.out).mono ?_
  rintro e w2 ⟨rfl, b2⟩
  have a2 : Below w.heap.size w w2 := (b1.alloc b1.size _).trans (b2.mono (by have := b1.size; simp; omega))
  go_wp2_with fail
  go_ret
  exact ⟨rfl, a2⟩
theorem format_2 (s a b : ByteArray) (v : Bool) (w : World) (hK : Hid (Marks w)) (hM : Hid (Mxa w)) (h1 : 1 ≤ s.size) (h2 : s.size ≤ 32) (hc : Hid (Fm.cutF s.data.toList = (2, a.data.toList, b.data.toList))) (na : a.toList.isEmpty = false) (nb : b.toList.isEmpty = false) (ha : a.size ≤ 32) (hb : b.size ≤ 32) (hv : Hid ((Fm.sgs a.data.toList && Fm.sgs b.data.toList) = v)) :
    Calls Tryd.prog 95 #[.string s] w fun e w' => e = .returned (.bool v) ∧ Below w.heap.size w w' := by
  go_enter Tryd.func95, Tryd.ntmps95
  go_wp2_with fail
  refine (fcut_is s 2 a b _ hK.out hM.out (by omega) hc.out).mono ?_
  rintro e w1 ⟨rfl, b1⟩
  go_wp2_with fail
  refine (signs_2 a b v w1.heap.size _ (by omega) (by omega) (by simp) (by go_simp) (by go_simp) hv.out).mono ?_
  rintro e w2 ⟨rfl, b2⟩
  have a2 : Below w.heap.size w w2 := (b1.alloc b1.size _).trans (b2.mono (by have := b1.size; simp; omega))
  go_wp2_with fail
  go_ret
  exact ⟨rfl, a2⟩
theorem format_2a (s b : ByteArray) (w : World) (hK : Hid (Marks w)) (hM : Hid (Mxa w)) (h1 : 1 ≤ s.size) (h2 : s.size ≤ 32) (hc : Hid (Fm.cutF s.data.toList = (2, [], b.data.toList))) :
    Calls Tryd.prog 95 #[.string s] w fun e w' => e = .returned (.bool false) ∧ Below w.heap.size w w' := by
  go_enter Tryd.func95, Tryd.ntmps95
  go_wp2_with fail
  refine (fcut_is s 2 ⟨#[]⟩ b _ hK.out hM.out (by omega) hc.out).mono ?_
  rintro e w1 ⟨rfl, b1⟩
  go_wp2_with fail
  go_ret
  exact ⟨rfl, b1⟩
theorem format_2b (s a : ByteArray) (w : World) (hK : Hid (Marks w)) (hM : Hid (Mxa w)) (h1 : 1 ≤ s.size) (h2 : s.size ≤ 32) (hc : Hid (Fm.cutF s.data.toList = (2, a.data.toList, []))) (na : a.toList.isEmpty = false) :
    Calls Tryd.prog 95 #[.string s] w fun e w' => e = .returned (.bool false) ∧ Below w.heap.size w w' := by
  go_enter Tryd.func95, Tryd.ntmps95
  go_wp2_with fail
  refine (fcut_is s 2 a ⟨#[]⟩ _ hK.out hM.out (by omega) hc.out).mono ?_
  rintro e w1 ⟨rfl, b1⟩
  go_wp2_with fail
  go_ret
  exact ⟨rfl, b1⟩
theorem format_any (s : ByteArray) (w : World) (hK : Marks w) (hM : Mxa w) :
    Calls Tryd.prog 95 #[.string s] w fun e w' => e = .returned (.bool (Fm.fmt s.data.toList)) ∧ Below w.heap.size w w' := by
  have hz : s.data.toList.length = s.size := by simp
  by_cases h1 : 1 ≤ s.size
  · by_cases h2 : s.size ≤ 32
    · obtain ⟨m, a0, b0, hc, hw⟩ := Fm.cutF_cases s.data.toList
      obtain ⟨a, rfl⟩ : ∃ a : ByteArray, a.data.toList = a0 := ⟨⟨a0.toArray⟩, by simp⟩
      obtain ⟨b, rfl⟩ : ∃ b : ByteArray, b.data.toList = b0 := ⟨⟨b0.toArray⟩, by simp⟩
      rw [fmt_of hc h1 h2]
      obtain ⟨ha, hb⟩ := cut_small hc
      by_cases h3 : m = 2
      · subst h3
        by_cases h4 : a.data.toList = []
        · rw [show Fm.fits 2 a.data.toList b.data.toList = false by unfold Fm.fits; rw [h4]; simp]
          exact format_2a s b w (Lib.hid hK) (Lib.hid hM) h1 h2 (Lib.hid (by rw [hc, h4]))
        · by_cases h5 : b.data.toList = []
          · rw [show Fm.fits 2 a.data.toList b.data.toList = false by unfold Fm.fits; rw [h5]; simp]
            exact format_2b s a w (Lib.hid hK) (Lib.hid hM) h1 h2 (Lib.hid (by rw [hc, h5])) (ne_empty h4)
          · rw [show Fm.fits 2 a.data.toList b.data.toList = (Fm.sgs a.data.toList && Fm.sgs b.data.toList) by
              unfold Fm.fits
              rw [show a.data.toList.isEmpty = false by simpa using h4, show b.data.toList.isEmpty = false by simpa using h5]
              simp]
            exact format_2 s a b _ w (Lib.hid hK) (Lib.hid hM) h1 h2 (Lib.hid hc) (ne_empty h4) (ne_empty h5) (by omega) (by omega) (Lib.hid rfl)
      · rw [show Fm.fits m a.data.toList b.data.toList = (Fm.sgs a.data.toList && Fm.sgs b.data.toList) by
          unfold Fm.fits
          rw [show (m == 2) = false by simpa using h3]
          simp]
        exact format_m s a b m _ w (Lib.hid hK) (Lib.hid hM) h1 h2 (Lib.hid hc) (by rw [beq_eq_false_iff_ne]; omega) (by omega) (by omega) (Lib.hid rfl)
    · have HE := Lib.hid (show false = Fm.fmt s.data.toList by unfold Fm.fmt; rw [hz]; simp [h2])
      have h2' : 32 < s.size := by omega
      clear hz h2
      go_enter Tryd.func95, Tryd.ntmps95
      go_wp2_with fail
      go_ret
      exact ⟨aret_bool HE.out, Below.refl _ _⟩
  · have HE := Lib.hid (show false = Fm.fmt s.data.toList by unfold Fm.fmt; rw [hz]; simp [h1])
    have h1' : s.size < 1 := by omega
    clear hz h1
    go_enter Tryd.func95, Tryd.ntmps95
    go_wp2_with fail
    go_ret
    exact ⟨aret_bool HE.out, Below.refl _ _⟩
theorem format_is (s : ByteArray) (v : Bool) (w : World) (hK : Marks w) (hM : Mxa w) (h : Fm.fmt s.data.toList = v) :
    Calls Tryd.prog 95 #[.string s] w fun e w' => e = .returned (.bool v) ∧ Below w.heap.size w w' := by
  subst h
  exact format_any s w hK hM
theorem fcheck_yes (s : ByteArray) (w : World) (hK : Marks w) (hM : Mxa w) (h : Fm.fmt s.data.toList = true) : Calls Tryd.prog 88 #[.string s] w fun e w' => e = .returned (.int .i64 0) ∧ Below w.heap.size w w' := by
  have H := Lib.hid (format_is s true w hK hM h)
  clear h hK hM
  go_enter Tryd.func88, Tryd.ntmps88
  go_wp2_with fail
  refine (H.out).mono ?_
  rintro e w1 ⟨rfl, b1⟩
  go_wp2_with fail
  go_ret
  exact ⟨rfl, b1⟩
theorem fcheck_no (s : ByteArray) (w : World) (hK : Marks w) (hM : Mxa w) (h : Fm.fmt s.data.toList = false) : Calls Tryd.prog 88 #[.string s] w fun e w' => e = .returned (.int .i64 2) ∧ Below w.heap.size w w' := by
  have H := Lib.hid (format_is s false w hK hM h)
  clear h hK hM
  go_enter Tryd.func88, Tryd.ntmps88
  go_wp2_with fail
  refine (H.out).mono ?_
  rintro e w1 ⟨rfl, b1⟩
  go_wp2_with fail
  go_ret
  exact ⟨rfl, b1⟩
end Go.Proofs.YthlbockphdbpkaaDoor
