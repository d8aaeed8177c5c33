/- Contracts of package day: read and Parse of any text, Text. -/
import Derived.Test.YtgcgmmdfmcapiaaGreatDoorDayParse
import Derived.Test.YtgcgmmdfmcapiaaGreatDoorShelf
import Derived.Deep.RegionHeld3
import Derived.Handy
namespace Go.Proofs.YtgcgmmdfmcapiaaGreatDoor
open Go.RowKit
/-- The length up to which the library looks for a byte by itself is some number. -/
def Mx (w : World) : Prop := ∃ m : Int, w.cell? ⟨4, 0, none⟩ = some (.int .i64 m)
theorem Mx.below {w w' : World} (h : Mx w) (hb : Below w.heap.size w w') : Mx w' := by
  obtain ⟨m, hm⟩ := h
  exact ⟨m, (hb.cell (lt_cell hm)).trans hm⟩
theorem dcut_is (s sep a b : ByteArray) (ok : Bool) (w : World) (hM : Mx w) (hs : s.size < 4294967281) (h1 : (⟨(Lib.cut s.data.toList sep.data.toList).1.toArray⟩ : ByteArray) = a) (h2 : (⟨(Lib.cut s.data.toList sep.data.toList).2.1.toArray⟩ : ByteArray) = b) (h3 : (Lib.cut s.data.toList sep.data.toList).2.2 = ok) :
    Calls Tryz.prog 99 #[.string s, .string sep] w fun e w' => e = .returned (.tuple #[.string a, .string b, .bool ok]) ∧ Below w.heap.size w w' := by
  obtain ⟨m, hm⟩ := hM
  subst h1 h2 h3
  exact (Tryz.strings_Cut s sep m w hs hm).mono fun e w' ⟨he, n, hw⟩ => ⟨he, by rw [hw]; exact below_drewN (Below.refl _ _) n⟩
theorem cut_sizes (l sep : List UInt8) : (Lib.cut l sep).1.length ≤ l.length ∧ (Lib.cut l sep).2.1.length ≤ l.length := by
  unfold Lib.cut
  split
  · simp
    omega
  · simp
theorem cut_size (s : ByteArray) (sep : List UInt8) (M : Nat) (h : s.size ≤ M) : (⟨(Lib.cut s.data.toList sep).1.toArray⟩ : ByteArray).size ≤ M ∧ (⟨(Lib.cut s.data.toList sep).2.1.toArray⟩ : ByteArray).size ≤ M := by
  have hc := cut_sizes s.data.toList sep
  have hl : s.data.toList.length = s.size := by simp
  rw [size_ba, size_ba]
  omega
theorem rd_ge {s : ByteArray} (h : Dy.isLast s = false) (hc : (Lib.cut s.data.toList [62, 61]).2.2 = true) : Dy.rd s = Dy.beside 2 ⟨(Lib.cut s.data.toList [62, 61]).1.toArray⟩ ⟨(Lib.cut s.data.toList [62, 61]).2.1.toArray⟩ := by
  unfold Dy.rd
  rw [h, if_neg Bool.false_ne_true, if_pos hc]
theorem rd_le {s : ByteArray} (h : Dy.isLast s = false) (hc : (Lib.cut s.data.toList [62, 61]).2.2 = false) (hd : (Lib.cut s.data.toList [60, 61]).2.2 = true) : Dy.rd s = Dy.beside 3 ⟨(Lib.cut s.data.toList [60, 61]).1.toArray⟩ ⟨(Lib.cut s.data.toList [60, 61]).2.1.toArray⟩ := by
  unfold Dy.rd
  rw [h, if_neg Bool.false_ne_true, hc, if_neg Bool.false_ne_true, if_pos hd]
theorem rd_num {s : ByteArray} (h : Dy.isLast s = false) (hc : (Lib.cut s.data.toList [62, 61]).2.2 = false) (hd : (Lib.cut s.data.toList [60, 61]).2.2 = false) : Dy.rd s = match Dy.num s.data.toList with | none => none | some n => some (0, n, 0) := by
  unfold Dy.rd
  rw [h, if_neg Bool.false_ne_true, hc, if_neg Bool.false_ne_true, hd, if_neg Bool.false_ne_true]
  rfl
/-- A day and a bool, as they are returned. -/
theorem dayE_form {o : Option (Int × Int × Int)} {e : Ending} (h : DayE o e) : ∃ (k n d : Int) (ok : Bool), e = .returned (.tuple #[.agg #[.int .u8 k, .int .i64 n, .int .i64 d], .bool ok]) ∧ DayE o (.returned (.tuple #[.agg #[.int .u8 k, .int .i64 n, .int .i64 d], .bool ok])) := by
  rcases h with ⟨k, n, d, h1, h2, h3, h4, h5, rfl⟩ | ⟨h1, k, n, d, rfl⟩
  · exact ⟨k, n, d, true, rfl, .inl ⟨k, n, d, h1, h2, h3, h4, h5, rfl⟩⟩
  · exact ⟨k, n, d, false, rfl, .inr ⟨h1, k, n, d, rfl⟩⟩
set_option maxHeartbeats 2000000 in
theorem read_any (s : ByteArray) (w : World) (hM : Mx w) (hs : s.size < 4294967281) : Calls Tryz.prog 84 #[.string s] w fun e w' => DayE (Dy.rd s) e ∧ Below w.heap.size w w' := by
  cases hl : Dy.isLast s with
  | true => exact read_last s w (by omega) (Lib.hid hl)
  | false =>
    have HL := Lib.hid hl
    have HM := Lib.hid hM
    have HS1 := Lib.hid (cut_size s [62, 61] 4294967296 (by omega))
    have HS2 := Lib.hid (cut_size s [60, 61] 4294967296 (by omega))
    clear hM
    cases hc : (Lib.cut s.data.toList [62, 61]).2.2 with
    | true =>
      have HR := Lib.hid (rd_ge hl hc)
      have HC := Lib.hid hc
      clear hl hc
      obtain ⟨a, ha⟩ : ∃ a, (⟨(Lib.cut s.data.toList [62, 61]).1.toArray⟩ : ByteArray) = a := ⟨_, rfl⟩
      obtain ⟨b, hb⟩ : ∃ b, (⟨(Lib.cut s.data.toList [62, 61]).2.1.toArray⟩ : ByteArray) = b := ⟨_, rfl⟩
      rw [ha, hb] at HS1 HR
      have HA := Lib.hid ha
      have HB := Lib.hid hb
      clear ha hb
      go_enter Tryz.func84, Tryz.ntmps84
      go_wp2_with fail
      refine (cutLast_no s _ (by omega) HL.out).mono ?_
      rintro e w1 ⟨rfl, b1⟩
      have a1 : Below w.heap.size w w1 := ((Below.refl _ _).alloc (Nat.le_refl _) _).trans (b1.mono (by simp))
      obtain ⟨hc, hf⟩ := bcell b1
      have hz : w.heap.size < w1.heap.size := by have := b1.size; simp at this; omega
      go_wp2_with fail
      refine (dcut_is s ⟨#[62, 61]⟩ a b true _ (HM.out.below a1) hs HA.out HB.out HC.out).mono ?_
      rintro e w2 ⟨rfl, b2⟩
      obtain ⟨hc2, hf2⟩ := bcell b2
      have hz2 : w.heap.size < w2.heap.size := by have := b2.size; omega
      have a2 := a1.trans (b2.mono a1.size)
      go_wp2_with fail
      refine (besideDay_any 2 a b _ HS1.out.1 HS1.out.2).mono ?_
      rintro e w3 ⟨hE, b3⟩
      rw [← HR.out] at hE
      obtain ⟨k, n, d, ok, rfl, hE⟩ := dayE_form hE
      have HE := Lib.hid hE
      obtain ⟨hc3, hf3⟩ := bcell b3
      have hz3 : w.heap.size < w3.heap.size := by have := b3.size; omega
      have a3 := a2.trans (b3.mono a2.size)
      clear hE
      go_wp2_with fail
      refine bodyPost_ret (v := .tuple #[.agg #[.int .u8 k, .int .i64 n, .int .i64 d], .bool ok]) (by simp [results, Tryz.results84, go_sem, hc, hz, hc2, hz2, hc3]) rfl ⟨HE.out, ?_⟩
      repeat (first | exact Below.refl _ _ | assumption | refine below_drewN ?_ _ | refine Below.drew ?_ | refine Below.setCell ?_ (by first | omega | (simp; done) | (simp; omega)) _ | refine Below.alloc ?_ (by first | omega | (simp; done) | (simp; omega)) _)
    | false =>
      have HC := Lib.hid hc
      obtain ⟨a0, ha0⟩ : ∃ a, (⟨(Lib.cut s.data.toList [62, 61]).1.toArray⟩ : ByteArray) = a := ⟨_, rfl⟩
      obtain ⟨b0, hb0⟩ : ∃ b, (⟨(Lib.cut s.data.toList [62, 61]).2.1.toArray⟩ : ByteArray) = b := ⟨_, rfl⟩
      have HA0 := Lib.hid ha0
      have HB0 := Lib.hid hb0
      clear ha0 hb0
      cases hd : (Lib.cut s.data.toList [60, 61]).2.2 with
      | true =>
        have HR := Lib.hid (rd_le hl hc hd)
        have HC2 := Lib.hid hd
        clear hl hc hd
        obtain ⟨a, ha⟩ : ∃ a, (⟨(Lib.cut s.data.toList [60, 61]).1.toArray⟩ : ByteArray) = a := ⟨_, rfl⟩
        obtain ⟨b, hb⟩ : ∃ b, (⟨(Lib.cut s.data.toList [60, 61]).2.1.toArray⟩ : ByteArray) = b := ⟨_, rfl⟩
        rw [ha, hb] at HS2 HR
        have HA := Lib.hid ha
        have HB := Lib.hid hb
        clear ha hb
        go_enter Tryz.func84, Tryz.ntmps84
        go_wp2_with fail
        refine (cutLast_no s _ (by omega) HL.out).mono ?_
        rintro e w1 ⟨rfl, b1⟩
        have a1 : Below w.heap.size w w1 := ((Below.refl _ _).alloc (Nat.le_refl _) _).trans (b1.mono (by simp))
        obtain ⟨hc, hf⟩ := bcell b1
        have hz : w.heap.size < w1.heap.size := by have := b1.size; simp at this; omega
        go_wp2_with fail
        refine (dcut_is s ⟨#[62, 61]⟩ a0 b0 false _ (HM.out.below a1) hs HA0.out HB0.out HC.out).mono ?_
        rintro e w2 ⟨rfl, b2⟩
        obtain ⟨hc2, hf2⟩ := bcell b2
        have hz2 : w.heap.size < w2.heap.size := by have := b2.size; omega
        have a2 := a1.trans (b2.mono a1.size)
        go_wp2_with fail
        refine (dcut_is s ⟨#[60, 61]⟩ a b true _ (HM.out.below a2) hs HA.out HB.out HC2.out).mono ?_
        rintro e w4 ⟨rfl, b4⟩
        obtain ⟨hc4, hf4⟩ := bcell b4
        have hz4 : w.heap.size < w4.heap.size := by have := b4.size; omega
        have a4 := a2.trans (b4.mono a2.size)
        go_wp2_with fail
        refine (besideDay_any 3 a b _ HS2.out.1 HS2.out.2).mono ?_
        rintro e w3 ⟨hE, b3⟩
        rw [← HR.out] at hE
        obtain ⟨k, n, d, ok, rfl, hE⟩ := dayE_form hE
        have HE := Lib.hid hE
        obtain ⟨hc3, hf3⟩ := bcell b3
        have hz3 : w.heap.size < w3.heap.size := by have := b3.size; omega
        have a3 := a4.trans (b3.mono a4.size)
        clear hE
        go_wp2_with fail
        refine bodyPost_ret (v := .tuple #[.agg #[.int .u8 k, .int .i64 n, .int .i64 d], .bool ok]) (by simp [results, Tryz.results84, go_sem, hc, hz, hc2, hz2, hc4, hz4, hc3]) rfl ⟨HE.out, ?_⟩
        repeat (first | exact Below.refl _ _ | assumption | refine below_drewN ?_ _ | refine Below.drew ?_ | refine Below.setCell ?_ (by first | omega | (simp; done) | (simp; omega)) _ | refine Below.alloc ?_ (by first | omega | (simp; done) | (simp; omega)) _)
      | false =>
        have hR := rd_num hl hc hd
        have HC2 := Lib.hid hd
        have hnum := dnumber_any s
        have hob : ∃ (n : Int) (ok : Bool), (NumE (Dy.num s.data.toList) (.returned (.tuple #[.int .i64 n, .bool ok]))) ∧ (∀ e, NumE (Dy.num s.data.toList) e → e = .returned (.tuple #[.int .i64 n, .bool ok])) ∧ DayE (Dy.rd s) (.returned (.tuple #[.agg #[.int .u8 0, .int .i64 n, .int .i64 0], .bool ok])) := by
          rw [hR]
          cases hn : Dy.num s.data.toList with
          | none => exact ⟨0, false, rfl, fun e h => h, .inr ⟨rfl, 0, 0, 0, rfl⟩⟩
          | some n =>
            obtain ⟨n1, n2⟩ := num_bd hn
            exact ⟨n, true, rfl, fun e h => h, .inl ⟨0, n, 0, rfl, n1, n2, by omega, by omega, rfl⟩⟩
        obtain ⟨n, ok, _, hN, hE⟩ := hob
        have HN := Lib.hid (show ∀ W : World, Calls Tryz.prog 101 #[.string s] W fun e w' => e = .returned (.tuple #[.int .i64 n, .bool ok]) ∧ W = w' from fun W => (hnum W (by omega)).mono fun e w' ⟨h1, h2⟩ => ⟨hN e h1, h2⟩)
        have HE := Lib.hid hE
        clear hl hc hd hR hnum hN hE
        obtain ⟨a, ha⟩ : ∃ a, (⟨(Lib.cut s.data.toList [60, 61]).1.toArray⟩ : ByteArray) = a := ⟨_, rfl⟩
        obtain ⟨b, hb⟩ : ∃ b, (⟨(Lib.cut s.data.toList [60, 61]).2.1.toArray⟩ : ByteArray) = b := ⟨_, rfl⟩
        have HA := Lib.hid ha
        have HB := Lib.hid hb
        clear ha hb
        go_enter Tryz.func84, Tryz.ntmps84
        go_wp2_with fail
        refine (cutLast_no s _ (by omega) HL.out).mono ?_
        rintro e w1 ⟨rfl, b1⟩
        have a1 : Below w.heap.size w w1 := ((Below.refl _ _).alloc (Nat.le_refl _) _).trans (b1.mono (by simp))
        obtain ⟨hc, hf⟩ := bcell b1
        have hz : w.heap.size < w1.heap.size := by have := b1.size; simp at this; omega
        go_wp2_with fail
        refine (dcut_is s ⟨#[62, 61]⟩ a0 b0 false _ (HM.out.below a1) hs HA0.out HB0.out HC.out).mono ?_
        rintro e w2 ⟨rfl, b2⟩
        obtain ⟨hc2, hf2⟩ := bcell b2
        have hz2 : w.heap.size < w2.heap.size := by have := b2.size; omega
        have a2 := a1.trans (b2.mono a1.size)
        go_wp2_with fail
        refine (dcut_is s ⟨#[60, 61]⟩ a b false _ (HM.out.below a2) hs HA.out HB.out HC2.out).mono ?_
        rintro e w4 ⟨rfl, b4⟩
        obtain ⟨hc4, hf4⟩ := bcell b4
        have hz4 : w.heap.size < w4.heap.size := by have := b4.size; omega
        have a4 := a2.trans (b4.mono a2.size)
        go_wp2_with fail
        refine (HN.out _).mono ?_
        rintro e w' ⟨rfl, rfl⟩
        go_wp2_with fail
        refine bodyPost_ret (v := .tuple #[.agg #[.int .u8 0, .int .i64 n, .int .i64 0], .bool ok]) (by simp [results, Tryz.results84, go_sem, hc, hz, hc2, hz2, hc4]) rfl ⟨HE.out, ?_⟩
        repeat (first | exact Below.refl _ _ | assumption | refine below_drewN ?_ _ | refine Below.drew ?_ | refine Below.setCell ?_ (by first | omega | (simp; done) | (simp; omega)) _ | refine Below.alloc ?_ (by first | omega | (simp; done) | (simp; omega)) _)
theorem dparse_any (s : ByteArray) (w : World) (hM : Mx w) (hs : s.size < 4294967281) : Calls Tryz.prog 64 #[.string s] w fun e w' => PrsE (Dy.prs s) e ∧ Below w.heap.size w w' :=
  parse_of s w fun W hW => read_any s W (hM.below hW) hs
theorem dparse_yes (s : ByteArray) (k n d : Int) (w : World) (hM : Mx w) (hs : s.size < 4294967281) (h : Dy.prs s = some (k, n, d)) : Calls Tryz.prog 64 #[.string s] w fun e w' => e = .returned (.tuple #[.agg #[.int .u8 k, .int .i64 n, .int .i64 d], .int .i64 0]) ∧ Below w.heap.size w w' :=
  (dparse_any s w hM hs).mono fun _ _ ⟨he, hb⟩ => ⟨prsE_some he h, hb⟩
theorem dparse_no (s : ByteArray) (w : World) (hM : Mx w) (hs : s.size < 4294967281) (h : Dy.prs s = none) : Calls Tryz.prog 64 #[.string s] w fun e w' => e = .returned (.tuple #[.agg #[.int .u8 0, .int .i64 0, .int .i64 0], .int .i64 4]) ∧ Below w.heap.size w w' :=
  (dparse_any s w hM hs).mono fun _ _ ⟨he, hb⟩ => ⟨prsE_none he h, hb⟩
end Go.Proofs.YtgcgmmdfmcapiaaGreatDoor
