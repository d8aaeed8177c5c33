/- Contracts of package word: small, begins, Same, Pick. -/
import Derived.Test.YtgcgmmdfmcapiaaGreatDoorCivil2
import Derived.Test.YtgcgmmdfmcapiaaGreatDoorWd
import Derived.Test.YtgcgmmdfmcapiaaGreatDoorSl
import Derived.OpenShut
import Derived.LoopTactic
import Derived.Below
import Derived.Calls
namespace Go.Proofs.YtgcgmmdfmcapiaaGreatDoor
open Go.RowKit
theorem idx_any (S : ByteArray) (kd : IntKind) (k : Nat) (hk : k < S.size) (W : World) : (Instr.index 9 (.string S) (.int kd (k : Int))).run Tryz.prog W = .ok (.int .u8 (S[k].toNat : Int)) W := by
  rw [run_index_string (P := Tryz.prog) W 9 S kd k Tryz.underlying9, dif_pos ⟨by omega, by omega⟩]
  rfl
theorem idx_str (S : ByteArray) (k : Nat) (hk : k < S.size) (W : World) : (Instr.index 9 (.string S) (.int .i64 (k : Int))).run Tryz.prog W = .ok (.int .u8 (S[k].toNat : Int)) W := idx_any S .i64 k hk W
theorem small_any (c : UInt8) (w : World) : Calls Tryz.prog 120 #[.int .u8 (c.toNat : Int)] w fun e w' => e = .returned (.int .u8 ((Wd.sm c).toNat : Int)) ∧ w = w' := by
  have hc := c.toNat_lt
  by_cases h : 65 ≤ c.toNat ∧ c.toNat ≤ 90
  · have hs : ((Wd.sm c).toNat : Int) = (c.toNat : Int) + 32 := by unfold Wd.sm; rw [if_pos h, UInt8.toNat_ofNat']; omega
    rw [hs]
    obtain ⟨a, b⟩ := h
    clear hs
    go_enter Tryz.func120, Tryz.ntmps120
    go_wp2
    go_ret
    exact ⟨rfl, rfl⟩
  · have hs : Wd.sm c = c := by unfold Wd.sm; rw [if_neg h]
    rw [hs]
    clear hs
    by_cases h1 : 65 ≤ c.toNat
    · have t1 : decide ((c.toNat : Int) ≤ 90) = false := by simp; omega
      clear h
      go_enter Tryz.func120, Tryz.ntmps120
      go_wp2
      go_ret
      exact ⟨rfl, rfl⟩
    · have t1 : decide (65 ≤ (c.toNat : Int)) = false := by simp; omega
      clear h
      go_enter Tryz.func120, Tryz.ntmps120
      go_wp2
      go_ret
      exact ⟨rfl, rfl⟩
theorem ret_bool {a b : Bool} (h : a = b) : Ending.returned (.bool a) = .returned (.bool b) := by rw [h]
set_option maxHeartbeats 1000000 in
theorem begins_any (x s : ByteArray) (w : World) (hx : x.size ≤ 4294967296) (_hs : s.size ≤ 4294967296) :
    Calls Tryz.prog 111 #[.string x, .string s] w fun e w' => e = .returned (.bool (Wd.beg x s)) ∧ Below w.heap.size w w' := by
  by_cases hl : x.size < s.size
  · rw [Wd.beg_short hl]
    go_enter Tryz.func111, Tryz.ntmps111
    go_wp2_with fail
    go_ret
    exact ⟨rfl, Below.refl _ _⟩
  · go_enter Tryz.func111, Tryz.ntmps111
    go_wp2_with fail
    go_loopw [13] (fun i wr => ∃ k : Nat, k ≤ s.size ∧ i = .int .i64 k ∧ Wd.Eqto x s k ∧ Below w.heap.size w wr) (fun i _ => s.size - (intOf i).toNat)
    case atStart => exact ⟨0, Nat.zero_le _, rfl, Wd.eqto_zero x s, Below.refl _ _⟩
    case round =>
      obtain ⟨k, hk, rfl, hE, hbw⟩ := hrel
      by_cases hlt : k < s.size
      · have hlx : k < x.size := by omega
        have hi0 := idx_str x k hlx
        have hi1 := idx_str s k hlt
        by_cases he : Wd.sm x[k] = Wd.sm s[k]
        · have HE := Lib.hid (Wd.eqto_snoc hE hlx hlt he)
          have t1 : (((Wd.sm x[k]).toNat : Int) != ((Wd.sm s[k]).toNat : Int)) = false := by rw [he]; simp
          clear he hE
          go_wp2_with fail
          go_quiet ((go_at_call 120; exact quiet_left (small_any _ _)))
          go_wp2_with fail
          go_roundw
          case rel => exact ⟨k + 1, by omega, by go_num, HE.out, below_drewN hbw _⟩
          case measure => simp [intOf]; omega
        · have HD := Lib.hid (Wd.beg_differ hlx hlt he)
          have t1 : (((Wd.sm x[k]).toNat : Int) != ((Wd.sm s[k]).toNat : Int)) = true := by
            rw [bne_iff_ne]; intro h; apply he; apply UInt8.toNat_inj.1; omega
          clear he hE
          go_wp2_with fail
          go_quiet ((go_at_call 120; exact quiet_left (small_any _ _)))
          go_wp2_with fail
          go_ret
          exact ⟨ret_bool HD.out.symm, below_drewN hbw _⟩
      · obtain rfl : k = s.size := by omega
        have HD := Lib.hid (Wd.eqto_all hE (by omega))
        clear hE
        go_wp2_with fail
        go_ret
        exact ⟨ret_bool HD.out.symm, hbw⟩
theorem same_any (a b : ByteArray) (w : World) (ha : a.size ≤ 4294967296) (hb : b.size ≤ 4294967296) :
    Calls Tryz.prog 110 #[.string a, .string b] w fun e w' => e = .returned (.bool (Wd.one a b)) ∧ Below w.heap.size w w' := by
  by_cases hl : a.size = b.size
  · rw [Wd.one_beg hl]
    have t1 : ((a.size : Int) == (b.size : Int)) = true := by simp [hl]
    clear hl
    go_enter Tryz.func110, Tryz.ntmps110
    go_wp2_with fail
    refine (begins_any a b _ ha hb).mono ?_
    rintro e w1 ⟨rfl, b1⟩
    go_wp2_with fail
    go_ret
    exact ⟨rfl, b1⟩
  · rw [Wd.one_size hl]
    have t1 : ((a.size : Int) == (b.size : Int)) = false := by rw [beq_eq_false_iff_ne]; omega
    clear hl
    go_enter Tryz.func110, Tryz.ntmps110
    go_wp2_with fail
    go_ret
    exact ⟨rfl, Below.refl _ _⟩
theorem not_empty {S : ByteArray} (h : S.size ≠ 0) : S.toList.isEmpty = false := by
  have hlen : S.data.toList.length = S.size := by simp
  rw [ByteArray.toList_eq]
  cases h' : S.data.toList with
  | nil => rw [h'] at hlen; simp at hlen; omega
  | cons a r => rfl
set_option maxHeartbeats 1000000 in
theorem pick_any (s : ByteArray) (A : Option Addr) (n c : Nat) (L : List ByteArray) (hl : L.length = n) (hn : n ≤ 4294967296) (hs : s.size ≤ 4294967296) (hL : ∀ i, i < n → (L.getD i ByteArray.empty).size ≤ 4294967296)
    (w : World) (B : Nat) (hB : B ≤ w.heap.size) (hS : Sl w B A n (fun i => .string (L.getD i ByteArray.empty))) :
    Calls Tryz.prog 96 #[.string s, .slice A n c] w fun e w' => e = .returned (.int .i64 (Wd.pick s L)) ∧ Below w.heap.size w w' := by
  by_cases h0 : s.size = 0
  · have hp : Wd.pick s L = -1 := by unfold Wd.pick; rw [if_pos h0]
    rw [hp]
    obtain rfl : s = ⟨#[]⟩ := ByteArray.ext (Array.eq_empty_of_size_eq_zero h0)
    clear hp h0 hl hL
    go_enter Tryz.func96, Tryz.ntmps96
    go_wp2_with fail
    go_ret
    exact ⟨rfl, Below.refl _ _⟩
  · have hp : Wd.pick s L = Wd.go s 0 (-1) 0 L := by unfold Wd.pick; rw [if_neg h0]
    rw [hp]
    have he := not_empty h0
    have HL := Lib.hid hl
    have HZ := Lib.hid hL
    clear hp h0 hl hL
    go_enter Tryz.func96, Tryz.ntmps96
    go_wp2_with fail
    go_loopw [5, 6, 13] (fun f q i wr => ∃ k : Nat, ∃ F : Int, ∃ C : Nat, k ≤ n ∧ i = .int .i64 k ∧ f = .int .i64 F ∧ q = .int .i64 C ∧ C ≤ k ∧ Wd.go s 0 (-1) 0 L = Wd.go s k F C (L.drop k) ∧ Below w.heap.size w wr) (fun _ _ i _ => n - (intOf i).toNat)
    case atStart => exact ⟨0, -1, 0, Nat.zero_le _, rfl, rfl, rfl, Nat.le_refl _, rfl, Below.refl _ _⟩
    case round =>
      obtain ⟨k, F, C, hk, rfl, rfl, rfl, hC, hG, hbw⟩ := hrel
      by_cases hlt : k < n
      · obtain ⟨ad, rfl, hal, hc⟩ := (hS.below (hbw.mono hB)).at_ hlt
        change wr.cell? (ad.add k) = some (.string (L.getD k ByteArray.empty)) at hc
        have hz := HZ.out k hlt
        have hd : L.drop k = L.getD k ByteArray.empty :: L.drop (k + 1) := by
          have hkl : k < L.length := by rw [HL.out]; exact hlt
          rw [List.drop_eq_getElem_cons hkl, List.getD_eq_getElem?_getD, List.getElem?_eq_getElem hkl]
          rfl
        rw [hd] at hG
        generalize L.getD k ByteArray.empty = X at *
        by_cases ho : Wd.one s X = true
        · have HG := Lib.hid (show Wd.go s 0 (-1) 0 L = (k : Int) by rw [hG]; unfold Wd.go; rw [if_pos ho])
          clear hG hd
          go_wp2_with fail
          refine (same_any s X _ hs hz).mono ?_
          rintro e w1 ⟨rfl, b1⟩
          have a1 := hbw.trans (b1.mono hbw.size)
          go_wp2_with fail
          go_ret
          exact ⟨ret_int HG.out.symm, a1⟩
        · have ho' : Wd.one s X = false := by simpa using ho
          by_cases hb : Wd.beg X s = true
          · have HG := Lib.hid (show Wd.go s 0 (-1) 0 L = Wd.go s (k + 1) (k : Int) (C + 1) (L.drop (k + 1)) by rw [hG, Wd.go, if_neg ho, if_pos hb])
            clear hG hd ho
            go_wp2_with fail
            refine (same_any s X _ hs hz).mono ?_
            rintro e w1 ⟨rfl, b1⟩
            have a1 := hbw.trans (b1.mono hbw.size)
            go_wp2_with fail
            refine (begins_any X s _ hz hs).mono ?_
            rintro e w2 ⟨rfl, b2⟩
            have a2 := a1.trans (b2.mono a1.size)
            go_wp2_with fail
            go_roundw
            case rel => exact ⟨k + 1, k, C + 1, by omega, by go_num, rfl, by go_num, by omega, HG.out, a2⟩
            case measure => simp [intOf]; omega
          · have HG := Lib.hid (show Wd.go s 0 (-1) 0 L = Wd.go s (k + 1) F C (L.drop (k + 1)) by rw [hG, Wd.go, if_neg ho, if_neg hb])
            have hb' : Wd.beg X s = false := by simpa using hb
            clear hG hd ho hb
            go_wp2_with fail
            refine (same_any s X _ hs hz).mono ?_
            rintro e w1 ⟨rfl, b1⟩
            have a1 := hbw.trans (b1.mono hbw.size)
            go_wp2_with fail
            refine (begins_any X s _ hz hs).mono ?_
            rintro e w2 ⟨rfl, b2⟩
            have a2 := a1.trans (b2.mono a1.size)
            go_wp2_with fail
            go_roundw
            case rel => exact ⟨k + 1, F, C, by omega, by go_num, rfl, rfl, by omega, HG.out, a2⟩
            case measure => simp [intOf]; omega
      · obtain rfl : k = n := by omega
        rw [List.drop_of_length_le (by rw [HL.out]; exact Nat.le_refl _)] at hG
        by_cases h1 : C = 1
        · have HG := Lib.hid (show Wd.go s 0 (-1) 0 L = F by rw [hG, Wd.go, if_pos h1])
          subst h1
          clear hG
          go_wp2_with fail
          go_ret
          exact ⟨ret_int HG.out.symm, hbw⟩
        · have HG := Lib.hid (show Wd.go s 0 (-1) 0 L = -1 by rw [hG, Wd.go, if_neg h1])
          have t1 : ((C : Int) != 1) = true := by rw [bne_iff_ne]; omega
          clear hG h1
          go_wp2_with fail
          go_ret
          exact ⟨ret_int HG.out.symm, hbw⟩
end Go.Proofs.YtgcgmmdfmcapiaaGreatDoor
