/- The contracts of the document's own answers for layer 2: the text of a time. -/
import Derived.Test.YtgcgmmdfmcapiaaGreatDoorEnv
import Derived.Laws.BytesString
import Derived.Deep.RegionWith
namespace Go.Proofs.YtgcgmmdfmcapiaaGreatDoor
open Go.RowKit
theorem conv_one (W : World) (n : Int) (c : Nat) :
    (convert 107 9 (.slice (some ⟨W.heap.size, 0, none⟩) 1 c)).run Tryz.prog (W.alloc (.cells #[.int .u8 n] 5)) = .ok (.string ⟨#[UInt8.ofNat n.toNat]⟩) (W.alloc (.cells #[.int .u8 n] 5)) := by
  rw [run_convert_bytes_string _ _ _ _ _ _ _ Tryz.underlying107 Tryz.underlying5 Tryz.underlying9]
  rw [run_bytesToString _ _ _ _ [n] (by go_simp)]
  rfl
theorem conv_two (W : World) (n m : Int) (c : Nat) :
    (convert 107 9 (.slice (some ⟨W.heap.size, 0, none⟩) 2 c)).run Tryz.prog (W.alloc (.cells #[.int .u8 n, .int .u8 m] 5)) = .ok (.string ⟨#[UInt8.ofNat n.toNat, UInt8.ofNat m.toNat]⟩) (W.alloc (.cells #[.int .u8 n, .int .u8 m] 5)) := by
  rw [run_convert_bytes_string _ _ _ _ _ _ _ Tryz.underlying107 Tryz.underlying5 Tryz.underlying9]
  rw [run_bytesToString _ _ _ _ [n, m] (by go_simp)]
  rfl
theorem conv_at (n : Int) (W : World) (b c : Nat) (h : W.cell? ⟨b, 0, none⟩ = some (.int .u8 n)) :
    (convert 107 9 (.slice (some ⟨b, 0, none⟩) 1 c)).run Tryz.prog W = .ok (.string ⟨#[UInt8.ofNat n.toNat]⟩) W := by
  rw [run_convert_bytes_string _ _ _ _ _ _ _ Tryz.underlying107 Tryz.underlying5 Tryz.underlying9]
  rw [run_bytesToString _ _ _ _ [n] (by go_simp)]
  rfl
theorem two_bytes (n : Int) (h : 0 ≤ n) : (⟨#[UInt8.ofNat (48 + n / 10).toNat, UInt8.ofNat (48 + n % 10).toNat]⟩ : ByteArray) = ⟨(two n).toArray⟩ := by
  unfold two
  rw [show (48 + n / 10).toNat = 48 + n.toNat / 10 by omega, show (48 + n % 10).toNat = 48 + n.toNat % 10 by omega]
theorem num_small (n : Int) (h0 : 0 ≤ n) (h1 : n < 10) : (⟨#[UInt8.ofNat (48 + n).toNat]⟩ : ByteArray) = ⟨(Lib.decDigits n.toNat).toArray⟩ := by
  rw [Lib.decDigits, dif_pos (by omega), show (48 + n).toNat = 48 + n.toNat by omega]
theorem num_step (n : Int) (h0 : 10 ≤ n) : (⟨(Lib.decDigits (n / 10).toNat).toArray⟩ : ByteArray) ++ ⟨#[UInt8.ofNat (48 + n % 10).toNat]⟩ = ⟨(Lib.decDigits n.toNat).toArray⟩ := by
  have e : Lib.decDigits n.toNat = Lib.decDigits (n.toNat / 10) ++ [UInt8.ofNat (48 + n.toNat % 10)] := by
    rw [Lib.decDigits, dif_neg (by omega)]
  rw [e, show (48 + n % 10).toNat = 48 + n.toNat % 10 by omega, show (n / 10).toNat = n.toNat / 10 by omega]
  exact bytes_app _ _
theorem itoa_dec (n : Int) (h : 0 ≤ n) : Lib.itoa n = Lib.decDigits n.toNat := by
  unfold Lib.itoa
  rw [if_neg (by omega)]
theorem rtxt_yes (t : Int) (h0 : 0 ≤ t) (h : ¬ t % 60 = 0) : (((⟨(Lib.decDigits (t / 3600).toNat).toArray⟩ : ByteArray) ++ ⟨#[58]⟩) ++ ⟨(two (t / 60 % 60)).toArray⟩) ++ ((⟨#[58]⟩ : ByteArray) ++ ⟨(two (t % 60)).toArray⟩) = ⟨(txt0 t).toArray⟩ := by
  unfold txt0
  rw [if_neg h, itoa_dec _ (by omega), show t % 3600 / 60 = t / 60 % 60 by omega]
  apply ByteArray.ext
  simp
theorem rtxt_no (t : Int) (h0 : 0 ≤ t) (h : t % 60 = 0) : (((⟨(Lib.decDigits (t / 3600).toNat).toArray⟩ : ByteArray) ++ ⟨#[58]⟩) ++ ⟨(two (t / 60 % 60)).toArray⟩) = ⟨(txt0 t).toArray⟩ := by
  unfold txt0
  rw [if_pos h, itoa_dec _ (by omega), show t % 3600 / 60 = t / 60 % 60 by omega]
  apply ByteArray.ext
  simp
theorem txt0_len (t : Int) (h0 : 0 ≤ t) (h1 : t ≤ 604800) : (txt0 t).length ≤ 20 := by
  have := itoa_len (t / 3600) (by omega) (by omega)
  unfold txt0
  split <;> simp [two_len] <;> omega
theorem rtime_yes (t : Int) (w : World) (h1 : -604800 ≤ t) (h2 : t ≤ 604800) :
    Calls Tryz.prog 49 #[.int .i64 t] w fun e w' => e = .returned (.bool true) ∧ w = w' := by
  go_enter Tryz.func49, Tryz.ntmps49
  go_wp2
  go_ret
  exact ⟨rfl, rfl⟩
theorem rtime_no (t : Int) (w : World) (h : t < -604800 ∨ 604800 < t) :
    Calls Tryz.prog 49 #[.int .i64 t] w fun e w' => e = .returned (.bool false) ∧ w = w' := by
  rcases h with h | h
  · go_enter Tryz.func49, Tryz.ntmps49
    go_wp2
    go_ret
    exact ⟨rfl, rfl⟩
  · have h' : -604800 ≤ t := by omega
    have h2 : decide (t ≤ 604800) = false := by simp; omega
    go_enter Tryz.func49, Tryz.ntmps49
    go_wp2
    go_ret
    exact ⟨rfl, rfl⟩
theorem dec_len (u : Nat) (h : u ≤ 1000000) : (Lib.decDigits u).length ≤ 100 := by
  have key : ∀ (k u : Nat), u < 10 ^ (k + 1) → (Lib.decDigits u).length ≤ k + 1 := by
    intro k
    induction k with
    | zero => intro u hu; rw [Lib.decDigits, dif_pos (by omega)]; simp
    | succ k ih =>
      intro u hu
      rw [Lib.decDigits]
      split
      · simp
      · have := ih (u / 10) (by rw [Nat.pow_succ] at hu; omega)
        simp
        omega
  have := key 7 u (by omega)
  omega
theorem rtwo_any (n : Int) (w : World) (h0 : 0 ≤ n) (h1 : n < 100) :
    Calls Tryz.prog 74 #[.int .i64 n] w fun e w' => e = .returned (.string ⟨(two n).toArray⟩) ∧ Below w.heap.size w w' := by
  have hc := fun W a b c => conv_two W a b c
  go_enter Tryz.func74, Tryz.ntmps74
  go_wp2_with fail
  go_ret
  refine ⟨ret_bytes (two_bytes n h0), ?_⟩
  repeat (first | exact Below.refl _ _ | assumption | refine below_drewN ?_ _ | refine Below.drew ?_ | refine Below.setCell ?_ (by first | omega | (simp; done) | (simp; omega)) _ | refine Below.alloc ?_ (by first | omega | (simp; done) | (simp; omega)) _)
theorem rnum_any (k : Nat) : ∀ (n : Int) (w : World), n.toNat ≤ k → 0 ≤ n → n ≤ 1000000 →
    Calls Tryz.prog 73 #[.int .i64 n] w fun e w' => e = .returned (.string ⟨(Lib.decDigits n.toNat).toArray⟩) ∧ Below w.heap.size w w' := by
  induction k with
  | zero =>
    intro n w hk h0 h1
    have hc := fun W a b => conv_one W a b
    have hn : n < 10 := by omega
    go_enter Tryz.func73, Tryz.ntmps73
    go_wp2_with fail
    go_ret
    refine ⟨ret_bytes (num_small n h0 hn), ?_⟩
    repeat (first | exact Below.refl _ _ | assumption | refine below_drewN ?_ _ | refine Below.drew ?_ | refine Below.setCell ?_ (by first | omega | (simp; done) | (simp; omega)) _ | refine Below.alloc ?_ (by first | omega | (simp; done) | (simp; omega)) _)
  | succ k ih =>
    intro n w hk h0 h1
    have hc := fun W a b => conv_one W a b
    by_cases hn : n < 10
    · clear ih
      go_enter Tryz.func73, Tryz.ntmps73
      go_wp2_with fail
      go_ret
      refine ⟨ret_bytes (num_small n h0 hn), ?_⟩
      repeat (first | exact Below.refl _ _ | assumption | refine below_drewN ?_ _ | refine Below.drew ?_ | refine Below.setCell ?_ (by first | omega | (simp; done) | (simp; omega)) _ | refine Below.alloc ?_ (by first | omega | (simp; done) | (simp; omega)) _)
    · have IH := Lib.hid ih
      clear ih hc
      have hc := fun W b c => conv_at (48 + n % 10) W b c
      have hl := dec_len (n / 10).toNat (by omega)
      have e1 : n.tdiv 10 = n / 10 := Int.tdiv_eq_ediv_of_nonneg h0
      have e2 : n.tmod 10 = n % 10 := Int.tmod_eq_emod_of_nonneg h0
      have e5 : IntKind.i64.wrap (n / 10) = n / 10 := IntWalk.i64_in _ (by omega)
      have e3 : IntKind.i64.wrap (48 + n % 10) = 48 + n % 10 := IntWalk.i64_in _ (by omega)
      have e4 : IntKind.u8.wrap (48 + n % 10) = 48 + n % 10 := by rw [IntKind.wrap_u8]; omega
      go_enter Tryz.func73, Tryz.ntmps73
      go_wp2_with fail
      go_region_with (go_at_call 73; ((with_reducible refine (IH.out (n / 10) _ (by omega) (by omega) (by omega)).mono ?_); rintro e w' ⟨rfl, hb⟩; obtain ⟨hcc, hff⟩ := bcell hb; have hzz := hb.size))
      all_goals go_wp2_with fail
      all_goals go_ret
      all_goals refine ⟨ret_bytes (num_step n (by omega)), ?_⟩
      all_goals have hB : Below w.heap.size w w' := by first | exact (Below.refl _ _).drew.trans hb | exact (((Below.refl _ _).alloc (Nat.le_refl _) _).drew).trans (hb.mono (by simp))
      all_goals have hzB := hB.size
      all_goals (repeat (first | exact Below.refl _ _ | assumption | refine below_drewN ?_ _ | refine Below.drew ?_ | refine Below.setCell ?_ (by first | omega | (simp; done) | (simp; omega)) _ | refine Below.alloc ?_ (by first | omega | (simp; done) | (simp; omega)) _))
set_option maxHeartbeats 4000000 in
set_option maxRecDepth 100000 in
theorem rtext_pos (t : Int) (w : World) (h1 : 0 ≤ t) (h2 : t ≤ 604800) :
    Calls Tryz.prog 43 #[.int .i64 t] w fun e w' => e = .returned (.string ⟨(txt0 t).toArray⟩) ∧ Below w.heap.size w w' := by
  have hd := dec_len (t / 3600).toNat (by omega)
  have hl2 : (two (t / 60 % 60)).length ≤ 2 := Nat.le_refl _
  have hl3 : (two (t % 60)).length ≤ 2 := Nat.le_refl _
  go_enter Tryz.func43, Tryz.ntmps43
  go_wp2_with fail
  refine (rtime_yes t _ (by omega) (by omega)).mono ?_
  rintro e w' ⟨rfl, rfl⟩
  go_wp2_with fail
  refine (rnum_any (t / 3600).toNat (t / 3600) _ (Nat.le_refl _) (by omega) (by omega)).mono ?_
  rintro e w1 ⟨rfl, hb1⟩
  go_wp2_with fail
  refine (rtwo_any (t / 60 % 60) _ (by omega) (by omega)).mono ?_
  rintro e w2 ⟨rfl, hb2⟩
  have b2 := hb1.trans (hb2.mono hb1.size)
  go_wp2_with fail
  · refine (rtwo_any (t % 60) _ (by omega) (by omega)).mono ?_
    rintro e w3 ⟨rfl, hb3⟩
    go_wp2_with fail
    go_ret
    exact ⟨ret_bytes (rtxt_yes t h1 (by omega)), b2.trans (hb3.mono b2.size)⟩
  · go_ret
    exact ⟨ret_bytes (rtxt_no t h1 (by omega)), b2⟩
theorem rtext_in (t : Int) (w : World) (h1 : -604800 ≤ t) (h2 : t ≤ 604800) :
    Calls Tryz.prog 43 #[.int .i64 t] w fun e w' => e = .returned (.string ⟨(txt t).toArray⟩) ∧ Below w.heap.size w w' := by
  unfold txt
  by_cases h : t < 0
  · rw [if_pos h]
    have hl := txt0_len (-t) (by omega) (by omega)
    go_enter Tryz.func43, Tryz.ntmps43
    go_wp2_with fail
    refine (rtime_yes t _ (by omega) (by omega)).mono ?_
    rintro e w' ⟨rfl, rfl⟩
    go_wp2_with fail
    refine (rtext_pos (-t) _ (by omega) (by omega)).mono ?_
    rintro e w1 ⟨rfl, hb1⟩
    go_wp2_with fail
    go_ret
    exact ⟨ret_bytes (bytes_app [45] (txt0 (-t))), hb1⟩
  · rw [if_neg h]
    exact rtext_pos t w (by omega) h2
theorem rtext_out (t : Int) (w : World) (h : t < -604800 ∨ 604800 < t) :
    Calls Tryz.prog 43 #[.int .i64 t] w fun e w' => e = .returned (.string ByteArray.empty) ∧ Below w.heap.size w w' := by
  have H := Lib.hid h
  clear h
  go_enter Tryz.func43, Tryz.ntmps43
  go_wp2_with fail
  refine (rtime_no t _ H.out).mono ?_
  rintro e w' ⟨rfl, rfl⟩
  go_wp2_with fail
  go_ret
  exact ⟨rfl, Below.refl _ _⟩
end Go.Proofs.YtgcgmmdfmcapiaaGreatDoor
