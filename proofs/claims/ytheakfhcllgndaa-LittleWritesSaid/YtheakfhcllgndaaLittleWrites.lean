/- The walk of layer 3's statement LittleWrites. -/
import Derived.Test.YtheakfhcllgndaaLives03
import Derived.Test.YtheakfhcllgndaaRefUnh
import Derived.Test.YtheakfhcllgndaaSl
namespace Go.Proofs.Ytheakfhcllgndaa
open Go.RowKit
/-- What is written, or read. -/
structure Act3 where
  kind : Int
  width : Int
  num : Nat
  text : List UInt8
def Acts (w : World) (B : Nat) (A : Option Addr) (n : Nat) (v : Nat → Act3) : Prop := 0 < n → ∃ ad, A = some ad ∧ ad.block < B ∧ ∀ i, i < n → w.cell? (ad.add (i * 4)) = some (.int .i64 (v i).kind) ∧ w.cell? (ad.add (i * 4 + 1)) = some (.int .i64 (v i).width) ∧ w.cell? (ad.add (i * 4 + 2)) = some (.int .u64 ((v i).num : Int)) ∧ w.cell? (ad.add (i * 4 + 3)) = some (.string ⟨(v i).text.toArray⟩)
theorem Acts.below {w w' : World} {B : Nat} {A : Option Addr} {n : Nat} {v : Nat → Act3} (h : Acts w B A n v) (hb : Below B w w') : Acts w' B A n v := by
  intro hn
  obtain ⟨ad, e, hl, hc⟩ := h hn
  have hk : ∀ j u, w.cell? (ad.add j) = some u → w'.cell? (ad.add j) = some u := fun j u hu => (hb.cell (by rw [block_of_add]; exact hl)).trans hu
  exact ⟨ad, e, hl, fun i hi => ⟨hk _ _ (hc i hi).1, hk _ _ (hc i hi).2.1, hk _ _ (hc i hi).2.2.1, hk _ _ (hc i hi).2.2.2⟩⟩
theorem Acts.at_ {w : World} {B : Nat} {A : Option Addr} {n : Nat} {v : Nat → Act3} (h : Acts w B A n v) {k : Nat} (hk : k < n) : ∃ ad, A = some ad ∧ ad.block < B ∧ w.cell? (ad.add (k * 4)) = some (.int .i64 (v k).kind) ∧ w.cell? (ad.add (k * 4 + 1)) = some (.int .i64 (v k).width) ∧ w.cell? (ad.add (k * 4 + 2)) = some (.int .u64 ((v k).num : Int)) ∧ w.cell? (ad.add (k * 4 + 3)) = some (.string ⟨(v k).text.toArray⟩) := by
  obtain ⟨ad, e, hl, hc⟩ := h (by omega)
  exact ⟨ad, e, hl, hc k hk⟩
theorem add_field (a : Addr) (i j : Nat) (hj : 0 < j) : a.add (i + j) = ⟨(a.add i).block, (a.add i).off + j, none⟩ := by
  unfold Addr.add
  rw [if_neg (by omega)]
  by_cases hi : i = 0
  · subst hi; simp
  · rw [if_neg hi]; simp [Nat.add_assoc]
theorem wraw_any (B g : Nat) (l s : List UInt8) (w : World) (h : Wr w B g l) (hl : l.length + s.length ≤ 4294967296) :
    Calls Try.prog 10 #[.pointer (some ⟨g, 0, none⟩), .string ⟨s.toArray⟩] w fun e w' => e = .returned (.tuple #[]) ∧ Wr w' B g (l ++ s) ∧ w.grownBy w' (some g) := by
  by_cases hs : s = []
  · subst hs
    refine (wraw_none g w).mono fun e w' ⟨he, hw⟩ => ⟨he, ?_⟩
    subst hw
    rw [List.append_nil]
    exact ⟨h, World.grownBy.refl _ _⟩
  · exact wraw_some B g l s w h hl hs
set_option maxRecDepth 100000 in
set_option maxHeartbeats 2000000 in
theorem littleWrites_any (A : Option Addr) (n c : Nat) (hn : n ≤ maxLen) (v : Nat → Act3) (hv : ∀ k, k < n → (v k).num < 18446744073709551616 ∧ (v k).text.length ≤ 9223372036854775807) (S : ByteArray) (hS : S.size ≤ maxLen) (w : World) (hs : Acts w w.heap.size A n v) :
    Calls Try.prog 3 #[.slice A n c, .string S] w fun e w' => e = .returned (.bool true) ∧ Below w.heap.size w w' := by
  unfold maxLen at hn hS
  by_cases h1 : 100 < n
  · go_enter Try.func3, Try.ntmps3
    go_wp2_with fail
    refine (lives03 _).mono ?_
    rintro e w1 ⟨rfl, a1⟩
    go_wp2_with fail
    go_ret
    exact ⟨rfl, a1⟩
  · by_cases h2 : 3000 < S.size
    · go_enter Try.func3, Try.ntmps3
      go_wp2_with fail
      refine (lives03 _).mono ?_
      rintro e w1 ⟨rfl, a1⟩
      go_wp2_with fail
      go_ret
      exact ⟨rfl, a1⟩
    · go_enter Try.func3, Try.ntmps3
      go_wp2_with fail
      refine (lives03 _).mono ?_
      rintro e w1 ⟨rfl, a1⟩
      go_wp2_with fail
      have W0 := Wr.new w1 w1.heap.size (Nat.le_refl _) 26
      have a2 : Below w.heap.size w (w1.alloc (.cells #[.pointer none, .int .i64 0] 26)) := a1.alloc a1.size _
      have hg := a1.size
      generalize hG : w1.heap.size = G at *
      clear a1 hG
      go_loopw [6, 25] (fun s i wr => ∃ (k : Nat) (l : List UInt8), k ≤ n ∧ i = .int .i64 k ∧ s = .string ⟨l.toArray⟩ ∧ l.length ≤ 1000 * k ∧ Wr wr G G l ∧ Below w.heap.size w wr) (fun _ i _ => n - (intOf i).toNat)
      case atStart => exact ⟨0, [], Nat.zero_le _, rfl, rfl, Nat.zero_le _, W0, a2⟩
      case round =>
        clear W0 a2
        obtain ⟨k, l, hk, rfl, rfl, hll, W1, a3⟩ := hrel
        by_cases hlt : k < n
        · obtain ⟨ad, rfl, hal, c0, c1, c2, c3⟩ := (hs.below a3).at_ hlt
          have hvk := hv k hlt
          generalize v k = x at *
          obtain ⟨kd, wd, nm, tx⟩ := x
          simp only at c0 c1 c2 c3 hvk
          have hts := size_ba tx
          rw [add_field _ _ _ (by omega)] at c1 c2 c3
          by_cases hbig : 1000 < tx.length
          · go_wp2_with fail
            go_ret
            refine ⟨rfl, ?_⟩
            have h9 := a3.size
            repeat (first | exact Below.refl _ _ | assumption | refine below_drewN ?_ _ | refine Below.drew ?_ | refine Below.setCell ?_ (by first | omega | (simp; done) | (simp; omega)) _ | refine Below.alloc ?_ (by first | omega | (simp; done) | (simp; omega)) _)
          · have W2 := W1.below ((Below.refl _ _).alloc (Nat.le_refl _) (.cells #[.int .i64 kd, .int .i64 wd, .int .u64 (nm : Int), .string ⟨tx.toArray⟩] 29))
            by_cases hk01 : kd = 0 ∨ kd = 1
            · by_cases hw : 1 ≤ wd ∧ wd ≤ 8
              · obtain ⟨wk, rfl⟩ : ∃ wk : Nat, wd = wk := ⟨wd.toNat, by omega⟩
                have hw : 1 ≤ wk ∧ wk ≤ 8 := by omega
                rcases hk01 with rfl | rfl
                · skip
                  have e1 : (wr.alloc (.cells #[.int .i64 0, .int .i64 (wk : Int), .int .u64 (nm : Int), .string ⟨tx.toArray⟩] 29)).cell? ⟨wr.heap.size, 1, none⟩ = some (.int .i64 (wk : Int)) := cell_blk (heap_alloc_new _ _) 1
                  have e2 : (wr.alloc (.cells #[.int .i64 0, .int .i64 (wk : Int), .int .u64 (nm : Int), .string ⟨tx.toArray⟩] 29)).cell? ⟨wr.heap.size, 2, none⟩ = some (.int .u64 (nm : Int)) := cell_blk (heap_alloc_new _ _) 2
                  have a4 := a3.alloc a3.size (.cells #[.int .i64 0, .int .i64 (wk : Int), .int .u64 (nm : Int), .string ⟨tx.toArray⟩] 29)
                  have hGl := W1.lt
                  have hsz := size_ba l
                  have hsz2 := size_ba (Le.le wk nm)
                  have hll2 := Le.le_len wk nm
                  have hl4 : l.length ≤ 100000 := by omega
                  clear W1 a3
                  go_wp2_with fail
                  clear c0 c1 c2 c3
                  refine (put_yes G G l wk nm _ W2 (by omega) hw.1 hw.2 hvk.1).mono ?_
                  rintro e w2 ⟨rfl, W3, g3⟩
                  have f1 := g3.cell e1 (by intro e; injection e with e; change wr.heap.size = G at e; omega)
                  have f2 := g3.cell e2 (by intro e; injection e with e; change wr.heap.size = G at e; omega)
                  have a5 := a4.trans ((below_only g3 (Nat.le_refl _) W2.lt).mono hg)
                  clear W2 g3 e1 e2 a4
                  go_wp2_with fail
                  refine (refPut_yes wk nm _ hw.1 hw.2 hvk.1).mono ?_
                  rintro e w3 ⟨rfl, b3⟩
                  have a6 := a5.trans (b3.mono a5.size)
                  have W4 := W3.below b3
                  clear W3 b3 a5 f1 f2
                  rw [Le.le_len] at hsz2
                  have hl5 : (l ++ Le.le wk nm).length ≤ 1000 * (k + 1) := by rw [List.length_append]; omega
                  clear hll2
                  go_wp2_with fail
                  go_roundw
                  case rel => exact ⟨k + 1, l ++ Le.le wk nm, by omega, by go_num, congrArg Value.string (app_ba l _), hl5, W4, a6⟩
                  case measure => simp [intOf]; omega
                · skip
                  have e1 : (wr.alloc (.cells #[.int .i64 1, .int .i64 (wk : Int), .int .u64 (nm : Int), .string ⟨tx.toArray⟩] 29)).cell? ⟨wr.heap.size, 1, none⟩ = some (.int .i64 (wk : Int)) := cell_blk (heap_alloc_new _ _) 1
                  have e2 : (wr.alloc (.cells #[.int .i64 1, .int .i64 (wk : Int), .int .u64 (nm : Int), .string ⟨tx.toArray⟩] 29)).cell? ⟨wr.heap.size, 2, none⟩ = some (.int .u64 (nm : Int)) := cell_blk (heap_alloc_new _ _) 2
                  have a4 := a3.alloc a3.size (.cells #[.int .i64 1, .int .i64 (wk : Int), .int .u64 (nm : Int), .string ⟨tx.toArray⟩] 29)
                  have hGl := W1.lt
                  have hsz := size_ba l
                  have hsz2 := size_ba (Le.le wk nm)
                  have hll2 := Le.le_len wk nm
                  have hl4 : l.length ≤ 100000 := by omega
                  clear W1 a3
                  go_wp2_with fail
                  clear c0 c1 c2 c3
                  refine (put_yes G G l wk nm _ W2 (by omega) hw.1 hw.2 hvk.1).mono ?_
                  rintro e w2 ⟨rfl, W3, g3⟩
                  have f1 := g3.cell e1 (by intro e; injection e with e; change wr.heap.size = G at e; omega)
                  have f2 := g3.cell e2 (by intro e; injection e with e; change wr.heap.size = G at e; omega)
                  have a5 := a4.trans ((below_only g3 (Nat.le_refl _) W2.lt).mono hg)
                  clear W2 g3 e1 e2 a4
                  go_wp2_with fail
                  refine (refPut_yes wk nm _ hw.1 hw.2 hvk.1).mono ?_
                  rintro e w3 ⟨rfl, b3⟩
                  have a6 := a5.trans (b3.mono a5.size)
                  have W4 := W3.below b3
                  clear W3 b3 a5 f1 f2
                  rw [Le.le_len] at hsz2
                  have hl5 : (l ++ Le.le wk nm).length ≤ 1000 * (k + 1) := by rw [List.length_append]; omega
                  clear hll2
                  go_wp2_with fail
                  go_roundw
                  case rel => exact ⟨k + 1, l ++ Le.le wk nm, by omega, by go_num, congrArg Value.string (app_ba l _), hl5, W4, a6⟩
                  case measure => simp [intOf]; omega
              · have hw' : wd < 1 ∨ 8 < wd := by omega
                clear hw
                rcases hk01 with rfl | rfl
                · skip
                  have e1 : (wr.alloc (.cells #[.int .i64 0, .int .i64 wd, .int .u64 (nm : Int), .string ⟨tx.toArray⟩] 29)).cell? ⟨wr.heap.size, 1, none⟩ = some (.int .i64 wd) := cell_blk (heap_alloc_new _ _) 1
                  have e2 : (wr.alloc (.cells #[.int .i64 0, .int .i64 wd, .int .u64 (nm : Int), .string ⟨tx.toArray⟩] 29)).cell? ⟨wr.heap.size, 2, none⟩ = some (.int .u64 (nm : Int)) := cell_blk (heap_alloc_new _ _) 2
                  have a4 := a3.alloc a3.size (.cells #[.int .i64 0, .int .i64 wd, .int .u64 (nm : Int), .string ⟨tx.toArray⟩] 29)
                  have hsz := size_ba l
                  have hl4 : l.length ≤ 100000 := by omega
                  clear W1 a3
                  go_wp2_with fail
                  clear c0 c1 c2 c3
                  refine (put_no G wd _ _ hw').mono ?_
                  rintro e w2 ⟨rfl, rfl⟩
                  go_wp2_with fail
                  refine (refPut_no wd _ _ hw').mono ?_
                  rintro e w3 ⟨rfl, rfl⟩
                  clear e1 e2
                  go_wp2_with fail
                  go_roundw
                  case rel => exact ⟨k + 1, l, by omega, by go_num, congrArg Value.string (by apply ByteArray.ext; simp), by omega, W2, a4⟩
                  case measure => simp [intOf]; omega
                · skip
                  have e1 : (wr.alloc (.cells #[.int .i64 1, .int .i64 wd, .int .u64 (nm : Int), .string ⟨tx.toArray⟩] 29)).cell? ⟨wr.heap.size, 1, none⟩ = some (.int .i64 wd) := cell_blk (heap_alloc_new _ _) 1
                  have e2 : (wr.alloc (.cells #[.int .i64 1, .int .i64 wd, .int .u64 (nm : Int), .string ⟨tx.toArray⟩] 29)).cell? ⟨wr.heap.size, 2, none⟩ = some (.int .u64 (nm : Int)) := cell_blk (heap_alloc_new _ _) 2
                  have a4 := a3.alloc a3.size (.cells #[.int .i64 1, .int .i64 wd, .int .u64 (nm : Int), .string ⟨tx.toArray⟩] 29)
                  have hsz := size_ba l
                  have hl4 : l.length ≤ 100000 := by omega
                  clear W1 a3
                  go_wp2_with fail
                  clear c0 c1 c2 c3
                  refine (put_no G wd _ _ hw').mono ?_
                  rintro e w2 ⟨rfl, rfl⟩
                  go_wp2_with fail
                  refine (refPut_no wd _ _ hw').mono ?_
                  rintro e w3 ⟨rfl, rfl⟩
                  clear e1 e2
                  go_wp2_with fail
                  go_roundw
                  case rel => exact ⟨k + 1, l, by omega, by go_num, congrArg Value.string (by apply ByteArray.ext; simp), by omega, W2, a4⟩
                  case measure => simp [intOf]; omega
            · by_cases hk2 : kd = 2
              · subst hk2
                have e3 : (wr.alloc (.cells #[.int .i64 2, .int .i64 wd, .int .u64 (nm : Int), .string ⟨tx.toArray⟩] 29)).cell? ⟨wr.heap.size, 3, none⟩ = some (.string ⟨tx.toArray⟩) := cell_blk (heap_alloc_new _ _) 3
                have a4 := a3.alloc a3.size (.cells #[.int .i64 2, .int .i64 wd, .int .u64 (nm : Int), .string ⟨tx.toArray⟩] 29)
                have hGl := W1.lt
                have hsz := size_ba l
                have hl4 : l.length ≤ 100000 := by omega
                clear W1 a3 hk01
                go_wp2_with fail
                clear c0 c1 c2 c3
                refine (wraw_any G G l tx _ W2 (by omega)).mono ?_
                rintro e w2 ⟨rfl, W3, g3⟩
                have f3 := g3.cell e3 (by intro e; injection e with e; change wr.heap.size = G at e; omega)
                have a5 := a4.trans ((below_only g3 (Nat.le_refl _) W2.lt).mono hg)
                have hl5 : (l ++ tx).length ≤ 1000 * (k + 1) := by rw [List.length_append]; omega
                clear W2 g3 e3 a4
                go_wp2_with fail
                go_roundw
                case rel => exact ⟨k + 1, l ++ tx, by omega, by go_num, congrArg Value.string (app_ba l tx), hl5, W3, a5⟩
                case measure => simp [intOf]; omega
              · have t0 : (kd == 0) = false := by rw [beq_eq_false_iff_ne]; omega
                have t1 : (kd == 1) = false := by rw [beq_eq_false_iff_ne]; omega
                have t2 : (kd == 2) = false := by rw [beq_eq_false_iff_ne]; omega
                have a4 := a3.alloc a3.size (.cells #[.int .i64 kd, .int .i64 wd, .int .u64 (nm : Int), .string ⟨tx.toArray⟩] 29)
                have hl4 : l.length ≤ 100000 := by omega
                clear W1 a3 hk01 hk2
                go_wp2_with fail
                go_roundw
                case rel => exact ⟨k + 1, l, by omega, by go_num, rfl, by omega, W2, a4⟩
                case measure => simp [intOf]; omega
        · clear hs
          have hll2 : l.length ≤ 100000 := by omega
          go_wp2_with fail
          refine (unhex_any S _ (by omega)).mono ?_
          rintro e w2 ⟨hU1, b2⟩
          have a4 := a3.trans (b2.mono a3.size)
          have W2 := W1.below b2
          clear W1 b2 a3
          rcases hU1 with ⟨hy, rfl⟩ | ⟨hno, rfl⟩
          · unfold tup
            have H := Lib.hid hy
            clear hy
            go_wp2_with fail
            refine (refUnhex_any S _ (by omega)).mono ?_
            rintro e w3 ⟨hU2, b3⟩
            have a5 := a4.trans (b3.mono a4.size)
            have W3 := W2.below b3
            clear W2 b3 a4
            obtain rfl : e = tup (Hx.outh S.data.toList) 0 := by
              rcases hU2 with ⟨_, h⟩ | ⟨h, _⟩
              · exact h
              · exact absurd H.out h
            unfold tup
            clear hU2
            generalize (⟨(Hx.outh S.data.toList).toArray⟩ : ByteArray) = O
            have t1 : (O.toList == O.toList) = true := by simp
            go_wp2_with fail
            refine (out_any G G l _ W3 (by omega)).mono ?_
            rintro e w4 ⟨rfl, b4⟩
            have a6 := a5.trans (b4.mono a5.size)
            clear W3 b4 a5
            generalize (⟨l.toArray⟩ : ByteArray) = L
            have t2 : (L.toList == L.toList) = true := by simp
            go_wp2_with fail
            refine (hex_any S _ (by omega)).mono ?_
            rintro e w5 ⟨rfl, b5⟩
            have a7 := a6.trans (b5.mono a6.size)
            clear b5 a6
            go_wp2_with fail
            refine (refHex_any S _ (by omega)).mono ?_
            rintro e w6 ⟨rfl, b6⟩
            have a8 := a7.trans (b6.mono a7.size)
            clear b6 a7
            generalize (⟨(Hx.hex S.data.toList).toArray⟩ : ByteArray) = X
            have t3 : (X.toList == X.toList) = true := by simp
            go_wp2_with fail
            go_ret
            exact ⟨rfl, a8⟩
          · unfold tup
            have H := Lib.hid hno
            clear hno
            go_wp2_with fail
            refine (refUnhex_any S _ (by omega)).mono ?_
            rintro e w3 ⟨hU2, b3⟩
            have a5 := a4.trans (b3.mono a4.size)
            have W3 := W2.below b3
            clear W2 b3 a4
            obtain rfl : e = tup [] 4 := by
              rcases hU2 with ⟨h, _⟩ | ⟨_, h⟩
              · exact absurd h H.out
              · exact h
            unfold tup
            clear hU2
            go_wp2_with fail
            refine (out_any G G l _ W3 (by omega)).mono ?_
            rintro e w4 ⟨rfl, b4⟩
            have a6 := a5.trans (b4.mono a5.size)
            clear W3 b4 a5
            generalize (⟨l.toArray⟩ : ByteArray) = L
            have t2 : (L.toList == L.toList) = true := by simp
            go_wp2_with fail
            refine (hex_any S _ (by omega)).mono ?_
            rintro e w5 ⟨rfl, b5⟩
            have a7 := a6.trans (b5.mono a6.size)
            clear b5 a6
            go_wp2_with fail
            refine (refHex_any S _ (by omega)).mono ?_
            rintro e w6 ⟨rfl, b6⟩
            have a8 := a7.trans (b6.mono a7.size)
            clear b6 a7
            generalize (⟨(Hx.hex S.data.toList).toArray⟩ : ByteArray) = X
            have t3 : (X.toList == X.toList) = true := by simp
            go_wp2_with fail
            go_ret
            exact ⟨rfl, a8⟩
end Go.Proofs.Ytheakfhcllgndaa
