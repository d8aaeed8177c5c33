/- The walk of layer 3's statement LittleBack. -/
import Derived.Test.YtheakfhcllgndaaLives03
import Derived.Test.YtheakfhcllgndaaSl
import Derived.OpenShut
namespace Go.Proofs.Ytheakfhcllgndaa
open Go.RowKit
def n64 (x : Int) : Nat := (x % 18446744073709551616).toNat
theorem n64_lt (x : Int) : n64 x < 18446744073709551616 := by unfold n64; omega
theorem n64_cast (x : Int) : (n64 x : Int) = x % 18446744073709551616 := by unfold n64; omega
def enc1 (x : Int) : List UInt8 := Le.le 8 (n64 x) ++ Le.le 4 (n64 x)
def enc (l : List Int) : List UInt8 := l.flatMap enc1
theorem enc_len (l : List Int) : (enc l).length = 12 * l.length := by
  induction l with
  | nil => rfl
  | cons a r ih => show (enc1 a ++ enc r).length = _; rw [List.length_append, ih]; simp [enc1, Le.le_len]; omega
theorem getD_at (l : List Int) (k : Nat) (h : k < l.length) : l.getD k 0 = l[k] := by rw [List.getD_eq_getElem?_getD, List.getElem?_eq_getElem h]; rfl
theorem enc_snoc (l : List Int) (k : Nat) (h : k < l.length) : enc (l.take (k + 1)) = (enc (l.take k) ++ Le.le 8 (n64 (l.getD k 0))) ++ Le.le 4 (n64 (l.getD k 0)) := by
  unfold enc
  rw [List.take_succ_eq_append_getElem h, List.flatMap_append, getD_at l k h]
  simp only [List.flatMap_cons, List.flatMap_nil, List.append_nil, enc1, List.append_assoc]
theorem enc_drop (l : List Int) (k : Nat) (h : k < l.length) : enc (l.drop k) = Le.le 8 (n64 (l.getD k 0)) ++ (Le.le 4 (n64 (l.getD k 0)) ++ enc (l.drop (k + 1))) := by
  unfold enc
  rw [List.drop_eq_getElem_cons h, List.flatMap_cons, getD_at l k h]
  simp only [enc1, List.append_assoc]
theorem take_le (k n : Nat) (r : List UInt8) : (Le.le k n ++ r).take k = Le.le k n := by
  have := List.take_left (l₁ := Le.le k n) (l₂ := r); rwa [Le.le_len] at this
theorem drop_le (k n : Nat) (r : List UInt8) : (Le.le k n ++ r).drop k = r := by
  have := List.drop_left (l₁ := Le.le k n) (l₂ := r); rwa [Le.le_len] at this
theorem sgn8_back (x : Int) (h1 : -9223372036854775808 ≤ x) (h2 : x ≤ 9223372036854775807) (r : List UInt8) : sgn 8 (Le.val ((Le.le 8 (n64 x) ++ r).take 8)) = x := by
  rw [take_le, Le.val_le, sgn_8, show (256 : Nat) ^ 8 = 18446744073709551616 by decide, Nat.mod_eq_of_lt (n64_lt x), n64_cast]
  unfold wrap64
  omega
theorem sgn4_back (x : Int) (r : List UInt8) : sgn 4 (Le.val ((Le.le 4 (n64 x) ++ r).take 4)) = wrap32 x := by
  have e : (256 : Nat) ^ 4 = 4294967296 := by decide
  rw [take_le, Le.val_le, e, sgn_4 _ (Nat.mod_lt _ (by omega)), Int.natCast_emod, n64_cast]
  unfold wrap32
  omega
set_option maxRecDepth 100000 in
set_option maxHeartbeats 2000000 in
theorem littleBack_any (A : Option Addr) (n c : Nat) (hn : n ≤ maxLen) (zs : List Int) (hlz : zs.length = n) (hz : ∀ k, k < n → -9223372036854775808 ≤ zs.getD k 0 ∧ zs.getD k 0 ≤ 9223372036854775807) (S : ByteArray) (hS : S.size ≤ maxLen) (w : World) (hs : Sl w w.heap.size A n (fun i => .int .i64 (zs.getD i 0))) :
    Calls Try.prog 4 #[.slice A n c, .string S] w fun e w' => e = .returned (.bool true) ∧ Below w.heap.size w w' := by
  unfold maxLen at hn hS
  by_cases h1 : 100 < n
  · go_enter Try.func4, Try.ntmps4
    go_wp2_with fail
    refine (lives03 _).mono ?_
    rintro e w1 ⟨rfl, a1⟩
    go_wp2_with fail
    go_ret
    exact ⟨rfl, a1⟩
  · by_cases h2 : 3000 < S.size
    · go_enter Try.func4, Try.ntmps4
      go_wp2_with fail
      refine (lives03 _).mono ?_
      rintro e w1 ⟨rfl, a1⟩
      go_wp2_with fail
      go_ret
      exact ⟨rfl, a1⟩
    · have HLZ := Lib.hid hlz
      have HZ := Lib.hid hz
      clear hlz hz
      go_enter Try.func4, Try.ntmps4
      go_wp2_with fail
      refine (lives03 _).mono ?_
      rintro e w1 ⟨rfl, a1⟩
      go_wp2_with fail
      have W0 := Wr.new w1 w1.heap.size (Nat.le_refl _) 26
      have a2 : Below w.heap.size w (w1.alloc (.cells #[.pointer none, .int .i64 0] 26)) := a1.alloc a1.size _
      have hg := a1.size
      generalize hG : w1.heap.size = G at *
      clear a1 hG
      go_loopw [27] (fun i wr => ∃ k : Nat, k ≤ n ∧ i = .int .i64 k ∧ Wr wr G G (enc (zs.take k)) ∧ Below w.heap.size w wr) (fun i _ => n - (intOf i).toNat)
      case atStart => exact ⟨0, Nat.zero_le _, rfl, W0, a2⟩
      case round =>
        clear W0 a2
        obtain ⟨k, hk, rfl, W1, a3⟩ := hrel
        have hlz := HLZ.out
        by_cases hlt : k < n
        · obtain ⟨ad, rfl, hal, hc⟩ := (hs.below a3).at_ hlt
          have hlen : (enc (zs.take k)).length ≤ 1200 := by rw [enc_len]; simp; omega
          have hsn := enc_snoc zs k (by omega)
          change wr.cell? (ad.add k) = some (.int .i64 (zs.getD k 0)) at hc
          generalize zs.getD k 0 = x at hc hsn
          have HSN := Lib.hid hsn
          clear hlz hsn
          go_wp2_with fail
          refine (put_lit G G _ 8 (n64 x) _ _ W1 (by omega) (by omega) (by omega) (n64_lt x) rfl 8 _ rfl (n64_cast x)).mono ?_
          rintro e w2 ⟨rfl, W2, g2⟩
          have b2 := below_only g2 (Nat.le_refl _) W1.lt
          have a4 := a3.trans (b2.mono hg)
          clear W1 g2 b2
          go_wp2_with fail
          refine (put_lit G G _ 4 (n64 x) _ _ W2 (by rw [List.length_append, Le.le_len]; omega) (by omega) (by omega) (n64_lt x) rfl 4 _ rfl (n64_cast x)).mono ?_
          rintro e w3 ⟨rfl, W3, g3⟩
          have b3 := below_only g3 (Nat.le_refl _) W2.lt
          have a5 := a4.trans (b3.mono hg)
          rw [← HSN.out] at W3
          clear W2 g3 b3 a3 HSN
          go_wp2_with fail
          go_roundw
          case rel => exact ⟨k + 1, by omega, by go_num, W3, a5⟩
          case measure => simp [intOf]; omega
        · obtain rfl : k = n := by omega
          rw [List.take_of_length_le (by omega)] at W1
          have hlen : (enc zs).length = 12 * k := by rw [enc_len, hlz]
          clear hlz
          go_wp2_with fail
          refine (out_lit G G (enc zs) _ _ W1 (by omega) rfl).mono ?_
          rintro e w2 ⟨rfl, b2⟩
          have a4 := a3.trans (b2.mono a3.size)
          clear W1 b2 a3
          go_wp2_with fail
          refine (open_lit _ (enc zs) rfl _).mono ?_
          rintro e w3 ⟨rfl, R3, b3⟩
          have a5 := a4.trans (b3.mono a4.size)
          have hg2 := a4.size
          generalize hG2 : w2.heap.size = G2 at *
          clear b3 a4 hG2
          go_wp2_with fail
          refine (left_lit G2 G2 (enc zs) false (12 * (k : Int)) _ R3 (by omega) (by omega)).mono ?_
          rintro e w' ⟨rfl, rfl⟩
          have HLEN := Lib.hid hlen
          clear hlen
          go_wp2_with fail
          go_loopw [52] (fun i wr => ∃ m : Nat, m ≤ k ∧ i = .int .i64 m ∧ Rd wr G2 G2 (enc (zs.drop m)) false ∧ Below w.heap.size w wr) (fun i _ => k - (intOf i).toNat)
          case atStart => exact ⟨0, Nat.zero_le _, rfl, R3, a5⟩
          case round =>
            clear R3 a5
            obtain ⟨m, hm, rfl, R4, a6⟩ := hrel
            have hlz := HLZ.out
            by_cases hlt2 : m < k
            · obtain ⟨ad, rfl, hal, hc⟩ := (hs.below a6).at_ hlt2
              have hlen : (enc (zs.drop m)).length ≤ 1200 := by rw [enc_len]; simp; omega
              have hb := HZ.out m hlt2
              change wr.cell? (ad.add m) = some (.int .i64 (zs.getD m 0)) at hc
              rw [enc_drop zs m (by omega)] at R4 hlen
              generalize zs.getD m 0 = x at hc R4 hlen hb
              generalize hr : enc (zs.drop (m + 1)) = r at *
              have HR := Lib.hid hr
              have hl2 : (Le.le 4 (n64 x) ++ r).length ≤ 1200 := by rw [List.length_append] at hlen; omega
              clear hlz hr
              have t1 : (x != x) = false := by simp
              have t2 : (wrap32 x != wrap64 (wrap32 x)) = false := by rw [bne_eq_false_iff_eq]; unfold wrap32 wrap64; omega
              go_wp2_with fail
              refine (signed_lit G2 G2 _ 8 x (Le.le 4 (n64 x) ++ r) _ R4 (by omega) (by omega) (by omega) (by rw [List.length_append, Le.le_len]; omega) (sgn8_back x hb.1 hb.2 _) (drop_le _ _ _) 8 rfl).mono ?_
              rintro e w4 ⟨rfl, R5, b5⟩
              have a7 := a6.trans (b5.mono hg2)
              clear R4 b5 a6
              go_wp2_with fail
              refine (signed_lit G2 G2 _ 4 (wrap32 x) r _ R5 (by omega) (by omega) (by omega) (by rw [List.length_append, Le.le_len]; omega) (sgn4_back x _) (drop_le _ _ _) 4 rfl).mono ?_
              rintro e w5 ⟨rfl, R6, b6⟩
              have a8 := a7.trans (b6.mono hg2)
              clear R5 b6 a7
              go_wp2_with fail
              go_roundw
              case rel => exact ⟨m + 1, by omega, by go_num, by rw [HR.out]; exact R6, a8⟩
              case measure => simp [intOf]; omega
            · obtain rfl : m = k := by omega
              rw [List.drop_of_length_le (by omega)] at R4
              change Rd wr G2 G2 [] false at R4
              have hsz : S.data.toList.length = S.size := by simp
              have hhl : (⟨(Hx.hex S.data.toList).toArray⟩ : ByteArray).size ≤ 9000 := by
                have := Hx.hex_len S.data.toList
                show (Hx.hex S.data.toList).toArray.size ≤ 9000
                simp only [List.size_toArray]
                omega
              have HSZ := Lib.hid hsz
              clear hlz hsz
              go_wp2_with fail
              refine (hex_any S _ (by omega)).mono ?_
              rintro e w4 ⟨rfl, b4⟩
              have a7 := a6.trans (b4.mono a6.size)
              have R5 := R4.below b4
              clear R4 b4 a6
              go_wp2_with fail
              refine (unhex_lit _ S _ (by omega) (Hx.ok_hex _).1 (by apply ByteArray.ext; show (Hx.outh (Hx.hex S.data.toList)).toArray = S.data; rw [(Hx.ok_hex _).2])).mono ?_
              rintro e w5 ⟨rfl, b5⟩
              have a8 := a7.trans (b5.mono a7.size)
              have R6 := R5.below b5
              clear R5 b5 a7
              have t3 : (S.toList != S.toList) = false := by simp
              go_wp2_with fail
              refine (bad_any G2 G2 [] false _ R6).mono ?_
              rintro e w' ⟨rfl, rfl⟩
              go_wp2_with fail
              refine (left_lit G2 G2 [] false 0 _ R6 (by simp) rfl).mono ?_
              rintro e w' ⟨rfl, rfl⟩
              by_cases hok : Hx.Okh S.data.toList
              · have hln := Hx.len_out _ hok
                have hol := Hx.outh_len S.data.toList
                rw [HSZ.out] at hln hol
                go_wp2_with fail
                refine (unhex_lit S _ _ (by omega) hok rfl).mono ?_
                rintro e w6 ⟨rfl, b6⟩
                have a9 := a8.trans (b6.mono a8.size)
                clear R6 b6 a8
                have hb1 : (⟨(Hx.outh S.data.toList).toArray⟩ : ByteArray).size ≤ 9000 := by
                  show (Hx.outh S.data.toList).toArray.size ≤ 9000
                  simp only [List.size_toArray]
                  omega
                have t4 : ((S.size : Int) != (S.size : Int)) = false := by simp
                have hz1 : (⟨(Hx.hex (Hx.outh S.data.toList)).toArray⟩ : ByteArray).size = S.size := by
                  show (Hx.hex (Hx.outh S.data.toList)).toArray.size = S.size
                  simp only [List.size_toArray]
                  exact hln
                generalize hT : (⟨(Hx.hex (Hx.outh S.data.toList)).toArray⟩ : ByteArray) = T at hz1
                generalize hV : (⟨(Hx.outh S.data.toList).toArray⟩ : ByteArray) = V at hb1
                have hVT : (⟨(Hx.hex V.data.toList).toArray⟩ : ByteArray) = T := by rw [← hV, ← hT]
                have HVT := Lib.hid hVT
                clear hln hol hT hV hVT hok
                go_wp2_with fail
                refine (hex_lit V T _ (by omega) HVT.out).mono ?_
                rintro e w7 ⟨rfl, b7⟩
                have a10 := a9.trans (b7.mono a9.size)
                clear b7 a9
                go_wp2_with fail
                go_ret
                exact ⟨rfl, a10⟩
              · go_wp2_with fail
                refine (unhex_bad S _ (by omega) hok).mono ?_
                rintro e w6 ⟨rfl, b6⟩
                have a9 := a8.trans (b6.mono a8.size)
                clear R6 b6 a8
                go_wp2_with fail
                go_ret
                exact ⟨rfl, a9⟩
theorem walkLittleBack (A : Option Addr) (n c : Nat) (hn : n ≤ maxLen) (zs : List Int) (hlz : zs.length = n) (hz : ∀ k, k < n → (Lit.int .i64 (zs.getD k 0)).wf = true) (S : ByteArray) (hS : S.size ≤ maxLen) (w : World) (hs : Sl w w.heap.size A n (fun i => .int .i64 (zs.getD i 0))) :
    Calls Try.prog 4 #[.slice A n c, .string S] w fun e w' => e = .returned (.bool true) ∧ Below w.heap.size w w' :=
  littleBack_any A n c hn zs hlz (fun k hk => bounds_i64 (hz k hk)) S hS w hs
end Go.Proofs.Ytheakfhcllgndaa
