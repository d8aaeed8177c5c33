/- The first questions of layer 3's statements: the document's own answers. -/
import Derived.Test.YtheakfhcllgndaaUnh2
namespace Go.Proofs.Ytheakfhcllgndaa
open Go.RowKit
theorem get_lit (B g : Nat) (l : List UInt8) (bad : Bool) (n : Nat) (v : Int) (l' : List UInt8) (w : World) (h : Rd w B g l bad) (hl : l.length ≤ 4294967296) (h1 : 1 ≤ n) (h8 : n ≤ 8) (hn : n ≤ l.length) (hv : (Le.val (l.take n) : Int) = v) (hd : l.drop n = l') (k : Int) (hk : (n : Int) = k) :
    Calls Try.prog 23 #[.pointer (some ⟨g, 0, none⟩), .int .i64 k] w fun e w' => e = .returned (.int .u64 v) ∧ Rd w' B g l' bad ∧ Below g w w' := by
  subst hv hd hk
  exact get_yes B g l bad n w h hl h1 h8 hn
theorem signed_lit (B g : Nat) (l : List UInt8) (n : Nat) (v : Int) (l' : List UInt8) (w : World) (h : Rd w B g l false) (hl : l.length ≤ 4294967296) (h1 : 1 ≤ n) (h8 : n ≤ 8) (hn : n ≤ l.length) (hv : sgn n (Le.val (l.take n)) = v) (hd : l.drop n = l') (k : Int) (hk : (n : Int) = k) :
    Calls Try.prog 18 #[.pointer (some ⟨g, 0, none⟩), .int .i64 k] w fun e w' => e = .returned (.int .i64 v) ∧ Rd w' B g l' false ∧ Below g w w' := by
  subst hv hd hk
  exact signed_yes B g l n w h hl h1 h8 hn
theorem rraw_lit (B g : Nat) (l : List UInt8) (bad : Bool) (n : Nat) (s l' : List UInt8) (w : World) (h : Rd w B g l bad) (hl : l.length ≤ 4294967296) (hn : n ≤ l.length) (hv : l.take n = s) (hd : l.drop n = l') (k : Int) (hk : (n : Int) = k) :
    Calls Try.prog 24 #[.pointer (some ⟨g, 0, none⟩), .int .i64 k] w fun e w' => e = .returned (.string ⟨s.toArray⟩) ∧ Rd w' B g l' bad ∧ Below g w w' := by
  subst hv hd hk
  exact rraw_yes B g l bad n w h hl hn
theorem left_lit (B g : Nat) (l : List UInt8) (bad : Bool) (n : Int) (w : World) (h : Rd w B g l bad) (hl : l.length ≤ 4294967296) (hn : (l.length : Int) = n) :
    Calls Try.prog 17 #[.pointer (some ⟨g, 0, none⟩)] w fun e w' => e = .returned (.int .i64 n) ∧ w = w' := by
  subst hn
  exact left_any B g l bad w h hl
theorem put_lit (B g : Nat) (l : List UInt8) (k n : Nat) (l' : List UInt8) (w : World) (h : Wr w B g l) (hl : l.length ≤ 4294967000) (h1 : 1 ≤ k) (h8 : k ≤ 8) (hn : n < 18446744073709551616) (he : l ++ Le.le k n = l') (a b : Int) (ha : (k : Int) = a) (hb : (n : Int) = b) :
    Calls Try.prog 8 #[.pointer (some ⟨g, 0, none⟩), .int .i64 a, .int .u64 b] w fun e w' => e = .returned (.tuple #[]) ∧ Wr w' B g l' ∧ w.grownBy w' (some g) := by
  subst he ha hb
  exact put_yes B g l k n w h hl h1 h8 hn
theorem wraw_lit (B g : Nat) (l s l' : List UInt8) (w : World) (h : Wr w B g l) (hl : l.length + s.length ≤ 4294967296) (hs : s ≠ []) (he : l ++ s = l') (S : Array UInt8) (hS : s.toArray = S) :
    Calls Try.prog 10 #[.pointer (some ⟨g, 0, none⟩), .string ⟨S⟩] w fun e w' => e = .returned (.tuple #[]) ∧ Wr w' B g l' ∧ w.grownBy w' (some g) := by
  subst he hS
  exact wraw_some B g l s w h hl hs
theorem out_lit (B g : Nat) (l : List UInt8) (S : ByteArray) (w : World) (h : Wr w B g l) (hl : l.length ≤ 4294967296) (hS : (⟨l.toArray⟩ : ByteArray) = S) :
    Calls Try.prog 13 #[.pointer (some ⟨g, 0, none⟩)] w fun e w' => e = .returned (.string S) ∧ Below w.heap.size w w' := by
  subst hS
  exact out_any B g l w h hl
theorem open_lit (S : ByteArray) (l : List UInt8) (hl : S.data.toList = l) (w : World) : Calls Try.prog 16 #[.string S] w fun e w' => e = .returned (.pointer (some ⟨w.heap.size, 0, none⟩)) ∧ Rd w' w.heap.size w.heap.size l false ∧ Below w.heap.size w w' := by
  subst hl
  exact open_any S w
theorem hex_lit (S T : ByteArray) (w : World) (hl : S.size ≤ 4294967296) (hT : (⟨(Hx.hex S.data.toList).toArray⟩ : ByteArray) = T) :
    Calls Try.prog 14 #[.string S] w fun e w' => e = .returned (.string T) ∧ Below w.heap.size w w' := by
  subst hT
  exact hex_any S w hl
theorem unhex_lit (S T : ByteArray) (w : World) (hl : S.size ≤ 4294967296) (h : Hx.Okh S.data.toList) (hT : (⟨(Hx.outh S.data.toList).toArray⟩ : ByteArray) = T) :
    Calls Try.prog 11 #[.string S] w fun e w' => e = .returned (.tuple #[.string T, .int .i64 0]) ∧ Below w.heap.size w w' := by
  subst hT
  refine (unhex_any S w hl).mono fun e w' ⟨hU, hb⟩ => ⟨?_, hb⟩
  rcases hU with ⟨_, he⟩ | ⟨hn, _⟩
  · exact he
  · exact absurd h hn
theorem unhex_bad (S : ByteArray) (w : World) (hl : S.size ≤ 4294967296) (h : ¬ Hx.Okh S.data.toList) :
    Calls Try.prog 11 #[.string S] w fun e w' => e = .returned (.tuple #[.string ⟨#[]⟩, .int .i64 4]) ∧ Below w.heap.size w w' := by
  refine (unhex_any S w hl).mono fun e w' ⟨hU, hb⟩ => ⟨?_, hb⟩
  rcases hU with ⟨hy, _⟩ | ⟨_, he⟩
  · exact absurd hy h
  · exact he
set_option maxRecDepth 100000 in
set_option maxHeartbeats 1000000 in
theorem lives03 (w : World) : Calls Try.prog 7 #[] w fun e w' => e = .returned (.bool true) ∧ Below w.heap.size w w' := by
  go_enter Try.func7, Try.ntmps7
  go_wp2_with fail
  have W0 := Wr.new w w.heap.size (Nat.le_refl _) 26
  have a0 : Below w.heap.size w (w.alloc (.cells #[.pointer none, .int .i64 0] 26)) := (Below.refl _ _).alloc (Nat.le_refl _) _
  refine (put_lit w.heap.size w.heap.size [] 2 66051 [3, 2] _ W0 (by decide) (by omega) (by omega) (by omega) (by decide) 2 66051 rfl rfl).mono ?_
  rintro e w1 ⟨rfl, W1, g1⟩
  have a1 := a0.trans (below_only g1 (Nat.le_refl _) W0.lt)
  clear W0 g1
  go_wp2_with fail
  refine (put_lit w.heap.size w.heap.size [3, 2] 4 4294967291 [3, 2, 251, 255, 255, 255] _ W1 (by decide) (by omega) (by omega) (by omega) (by decide) 4 4294967291 rfl rfl).mono ?_
  rintro e w2 ⟨rfl, W2, g2⟩
  have a2 := a1.trans (below_only g2 (Nat.le_refl _) W1.lt)
  clear W1 g2 a0
  go_wp2_with fail
  refine (put_no _ 9 7 _ (by omega)).mono ?_
  rintro e w' ⟨rfl, rfl⟩
  go_wp2_with fail
  refine (wraw_lit w.heap.size w.heap.size [3, 2, 251, 255, 255, 255] [97, 98] [3, 2, 251, 255, 255, 255, 97, 98] _ W2 (by decide) (by decide) rfl _ rfl).mono ?_
  rintro e w3 ⟨rfl, W3, g3⟩
  have a3 := a2.trans (below_only g3 (Nat.le_refl _) W2.lt)
  clear W2 g3 a1
  go_wp2_with fail
  refine (out_lit w.heap.size w.heap.size [3, 2, 251, 255, 255, 255, 97, 98] _ _ W3 (by decide) rfl).mono ?_
  rintro e w4 ⟨rfl, b4⟩
  have a4 := a3.trans (b4.mono a3.size)
  clear W3 b4 a2
  go_wp2_with fail
  refine (open_lit _ [3, 2, 251, 255, 255, 255, 97, 98] rfl _).mono ?_
  rintro e w5 ⟨rfl, R5, b5⟩
  have a5 := a4.trans (b5.mono a4.size)
  have hg := a4.size
  generalize hG : w4.heap.size = G at *
  clear b5 a3 hG
  go_wp2_with fail
  refine (get_lit G G [3, 2, 251, 255, 255, 255, 97, 98] false 2 515 [251, 255, 255, 255, 97, 98] _ R5 (by decide) (by omega) (by omega) (by decide) (by decide) rfl 2 rfl).mono ?_
  rintro e w6 ⟨rfl, R6, b6⟩
  have a6 := a5.trans (b6.mono hg)
  clear R5 b6 a4
  go_wp2_with fail
  refine (signed_lit G G [251, 255, 255, 255, 97, 98] 4 (-5) [97, 98] _ R6 (by decide) (by omega) (by omega) (by decide) (by rw [sgn_4 _ (by decide)]; simp [wrap32, Le.val]) rfl 4 rfl).mono ?_
  rintro e w7 ⟨rfl, R7, b7⟩
  have a7 := a6.trans (b7.mono hg)
  clear R6 b7 a5
  go_wp2_with fail
  refine (rraw_lit G G [97, 98] false 1 [97] [98] _ R7 (by decide) (by decide) rfl rfl 1 rfl).mono ?_
  rintro e w8 ⟨rfl, R8, b8⟩
  have a8 := a7.trans (b8.mono hg)
  clear R7 b8 a6
  go_wp2_with fail
  refine (left_lit G G [98] false 1 _ R8 (by decide) rfl).mono ?_
  rintro e w' ⟨rfl, rfl⟩
  go_wp2_with fail
  refine (get_no G G [98] false 2 _ R8 (by decide) (by right; right; decide)).mono ?_
  rintro e w9 ⟨rfl, R9, b9⟩
  have a9 := a8.trans (b9.mono hg)
  clear R8 b9 a7
  go_wp2_with fail
  refine (unhex_lit ⟨#[48, 65, 44, 102, 102]⟩ ⟨#[10, 255]⟩ _ (by decide) (by right; refine ⟨by decide, ?_⟩; unfold Hx.Good; decide) rfl).mono ?_
  rintro e w10 ⟨rfl, b10⟩
  have a10 := a9.trans (b10.mono a9.size)
  have R10 := R9.below b10
  clear R9 b10 a8
  go_wp2_with fail
  refine (unhex_bad ⟨#[48, 97, 44, 102]⟩ _ (by decide) (by rintro (h | ⟨h, _⟩) <;> revert h <;> decide)).mono ?_
  rintro e w11 ⟨rfl, b11⟩
  have a11 := a10.trans (b11.mono a10.size)
  have R11 := R10.below b11
  clear R10 b11 a9
  go_wp2_with fail
  refine (bad_any G G [] true _ R11).mono ?_
  rintro e w' ⟨rfl, rfl⟩
  go_wp2_with fail
  refine (left_lit G G [] true 0 _ R11 (by decide) rfl).mono ?_
  rintro e w' ⟨rfl, rfl⟩
  go_wp2_with fail
  refine (hex_lit ⟨#[10, 255]⟩ ⟨#[48, 97, 44, 102, 102]⟩ _ (by decide) rfl).mono ?_
  rintro e w12 ⟨rfl, b12⟩
  have a12 := a11.trans (b12.mono a11.size)
  clear R11 b12 a10
  go_wp2_with fail
  refine (hex_lit ⟨#[]⟩ ⟨#[]⟩ _ (by decide) rfl).mono ?_
  rintro e w13 ⟨rfl, b13⟩
  have a13 := a12.trans (b13.mono a12.size)
  clear b13
  go_wp2_with fail
  go_ret
  exact ⟨rfl, a13⟩
end Go.Proofs.Ytheakfhcllgndaa
