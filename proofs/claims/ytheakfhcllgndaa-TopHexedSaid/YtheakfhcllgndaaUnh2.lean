/- Contracts of package little: Unhex. -/
import Derived.Test.YtheakfhcllgndaaUnh
namespace Go.Proofs.Ytheakfhcllgndaa
open Go.RowKit
def tup (s : List UInt8) (k : Int) : Ending := .returned (.tuple #[.string ⟨s.toArray⟩, .int .i64 k])
/-- What Unhex answers. -/
def UnhP (s : List UInt8) (e : Ending) : Prop := (Hx.Okh s ∧ e = tup (Hx.outh s) 0) ∨ (¬ Hx.Okh s ∧ e = tup [] 4)
theorem wpList_push {P : Program} (w : World) {ops : Array Oper} {rest : List Oper} {o : Oper} {a : Act} {Q : Exit → Act → World → Prop}
    (hg : o.guard = none) (s x : Operand) (t : TypeId) (hop : o.op = Op.call { callee := Callee.builtin Builtin.append, args := #[s, x], argTypes := #[t, t] })
    (e : TypeId) (i : TypeInfo) (h1 : P.underlying t = some (.slice e)) (h2 : P.info? e = some i) (h4 : i.size = 1)
    (W : World) (n : Nat) (l : List UInt8) (hB : Buf W n l w) (hs : a.eval s = .slice (some ⟨W.heap.size, 0, none⟩) l.length n) (g c : Nat) (b : UInt8) (hx : a.eval x = .slice (some ⟨g, 0, none⟩) 1 c) (hc : w.cell? ⟨g, 0, none⟩ = some (.int .u8 (b.toNat : Int))) (hroom : l.length < n)
    (hK : ∀ w', Buf W n (l ++ [b]) w' → wpList P ops Q rest (a.put o.dst (.slice (some ⟨W.heap.size, 0, none⟩) (l.length + 1) n)) w') :
    wpList P ops Q (o :: rest) a w := by
  refine wpList_plain hg fun K hK' => ?_
  have hput := hB.put [b] (by simp; omega) [.int .u8 (b.toNat : Int)] rfl (0 + l.length * i.size) (by rw [h4]; omega)
  have hrun := run_append_room_cells (P := P) w t o.type e i h1 h2 W.heap.size 0 l.length n ⟨g, 0, none⟩ 1 c [.int .u8 (b.toNat : Int)] (by rw [h4]; rfl) (fun j u hj => by
    match j with
    | 0 => rw [addr_add, hc]; simpa using hj
    | j + 1 => simp at hj) (by intro u hu; simp at hu; subst hu; rfl) (by omega) (fun j hj => hB.some_ _ (by simp at hj; subst hj; rw [h4]; omega)) (fun j hj => hB.free _)
  unfold Oper.wp
  simp [execOp, hop, resolve, invoke, builtin, hs, hx, hrun, Result.andThen]
  exact hK' _ _ (hK _ (by simpa using hput))
theorem new_cell0 (w : World) (n : Nat) (v : Value) (t : TypeId) : ((w.drewN n).alloc (.cells #[v] t)).cell? ⟨w.heap.size, 0, none⟩ = some v := cell_blk (heap_alloc_new (w.drewN n) (.cells #[v] t)) 0
theorem ofInt_i64 (a : Nat) (ha : a < 9223372036854775808) : (BitVec.ofInt 64 (a : Int)).toNat = a := by
  rw [BitVec.ofInt_natCast, BitVec.toNat_ofNat]; exact Nat.mod_eq_of_lt (by omega)
theorem i64_or_nat (a b : Nat) (ha : a < 9223372036854775808) (hb : b < 9223372036854775808) : bits .or .i64 (a : Int) (b : Int) = ((a ||| b : Nat) : Int) := by
  have hx : a ||| b < 2 ^ 63 := Nat.or_lt_two_pow (by omega) (by omega)
  show IntKind.i64.wrap ((BitVec.ofInt 64 (a : Int) ||| BitVec.ofInt 64 (b : Int)).toNat : Int) = _
  rw [BitVec.toNat_or, ofInt_i64 a ha, ofInt_i64 b hb, IntKind.wrap_i64]
  omega
theorem or_nibbles (x y : Int) (h1 : 0 ≤ x) (h2 : x < 16) (h3 : 0 ≤ y) (h4 : y < 16) : bits .or .i64 (x * 16) y % 256 = ((UInt8.ofNat (16 * x.toNat + y.toNat)).toNat : Int) := by
  obtain ⟨a, rfl⟩ : ∃ a : Nat, x = a := ⟨x.toNat, by omega⟩
  obtain ⟨b, rfl⟩ : ∃ b : Nat, y = b := ⟨y.toNat, by omega⟩
  have e : (a : Int) * 16 = ((a * 16 : Nat) : Int) := by omega
  rw [e, i64_or_nat _ _ (by omega) (by omega), nat_join 4 (a * 16) b (by omega) (by omega), UInt8.toNat_ofNat', Int.toNat_natCast, Int.toNat_natCast]
  omega
theorem at_str (S : ByteArray) (k : Nat) (hk : k < S.size) : Hx.at_ S.data.toList k = S[k] := by
  apply Hx.at_of
  rw [List.getElem?_eq_getElem (by simpa using hk)]
  rfl
theorem not_okh {s : List UInt8} {k : Nat} (hk : k < (s.length + 1) / 3) (h : Hx.val (Hx.at_ s (3 * k)) < 0 ∨ Hx.val (Hx.at_ s (3 * k + 1)) < 0 ∨ (0 < k ∧ Hx.at_ s (3 * k - 1) ≠ 44)) : ¬ Hx.Okh s := by
  rintro (rfl | ⟨_, hg⟩)
  · simp at hk
  · obtain ⟨a, b, c⟩ := hg k hk
    rcases h with h | h | ⟨h0, h⟩
    · omega
    · omega
    · exact h (c h0)
theorem quiet_left {P : Program} {f : FuncId} {args : Array Value} {w : World} {n : Nat} {v : Value}
    (h : Calls P f args (w.drewN n) fun e w' => e = .returned v ∧ w.drewN n = w') : Calls P f args (w.drewN n) fun e w'' => e = .returned v ∧ ∃ m, w'' = w.drewN m :=
  h.mono fun _ _ ⟨he, hm⟩ => ⟨he, n, hm.symm⟩
theorem quiet_add_left {P : Program} {f : FuncId} {args : Array Value} {w : World} {a n : Nat} {v : Value}
    (h : Calls P f args (w.drewN (a + n)) fun e w' => e = .returned v ∧ w.drewN (a + n) = w') :
    Calls P f args (w.drewN (a + n)) fun e w'' => e = .returned v ∧ ∃ m, w'' = w.drewN (a + m) :=
  h.mono fun _ _ ⟨he, hm⟩ => ⟨he, n, hm.symm⟩
theorem below_drewN {B : Nat} {a w : World} (h : Below B a w) (n : Nat) : Below B a (w.drewN n) := ⟨h.os, h.tape, h.output, h.size, h.block⟩
theorem Buf.drewN {w wr : World} {n : Nat} {l : List UInt8} (h : Buf w n l wr) (k : Nat) : Buf w n l (wr.drewN k) := ⟨h.cells, h.some_, h.free, below_drewN h.below k, h.more⟩
theorem unhex_nil (w : World) : Calls Try.prog 11 #[.string ⟨#[]⟩] w fun e w' => UnhP [] e ∧ Below w.heap.size w w' := by
  go_enter Try.func11, Try.ntmps11
  go_wp2
  go_ret2
  exact ⟨.inl ⟨.inl rfl, rfl⟩, Below.refl _ _⟩
theorem unhex_mod (S : ByteArray) (w : World) (hS : 0 < S.size) (hl : S.size ≤ 4294967296) (hm : S.size % 3 ≠ 2) : Calls Try.prog 11 #[.string S] w fun e w' => UnhP S.data.toList e ∧ Below w.heap.size w w' := by
  have hlen : S.data.toList.length = S.size := by simp
  have hno : UnhP S.data.toList (tup [] 4) := .inr ⟨by
    rintro (h | ⟨h, _⟩)
    · rw [h] at hlen; simp at hlen; omega
    · omega, rfl⟩
  have HN := Lib.hid hno
  have he : S.toList.isEmpty = false := by
    rw [ByteArray.toList_eq]
    cases h : S.data.toList with
    | nil => rw [h] at hlen; simp at hlen; omega
    | cons a r => rfl
  have t1 : ((S.size : Int) % 3 != 2) = true := by simp; omega
  clear hno hlen hm
  go_enter Try.func11, Try.ntmps11
  go_wp2
  go_ret2
  exact ⟨HN.out, Below.refl _ _⟩
set_option maxHeartbeats 1000000 in
theorem unhex_some (S : ByteArray) (w : World) (hS : 0 < S.size) (hl : S.size ≤ 4294967296) (hm : S.size % 3 = 2) : Calls Try.prog 11 #[.string S] w fun e w' => UnhP S.data.toList e ∧ Below w.heap.size w w' := by
  have hlen : S.data.toList.length = S.size := by simp
  have he : S.toList.isEmpty = false := by
    rw [ByteArray.toList_eq]
    cases h : S.data.toList with
    | nil => rw [h] at hlen; simp at hlen; omega
    | cons a r => rfl
  have t1 : ((S.size : Int) % 3 != 2) = false := by simp; omega
  have hmk : ∀ W : World, (Instr.makeSlice 60 (.int .i64 0) (.int .i64 ((S.size : Int) / 3 + 1))).run Try.prog W = .ok (.slice (some ⟨W.heap.size, 0, none⟩) 0 (S.size / 3 + 1)) (W.alloc (.cells (madeCells (Value.cells (.int .u8 0)) (S.size / 3 + 1)) 5)) := by
    intro W
    have := make_u8 0 (S.size / 3 + 1) (Nat.zero_le _) (by omega) W
    simpa using this
  have HL := Lib.hid hlen
  have HM := Lib.hid hm
  clear hlen hm
  go_enter Try.func11, Try.ntmps11
  go_wp2_with fail
  clear hmk
  go_loopw [4, 5] (fun v i wr => ∃ k : Nat, k ≤ (S.size + 1) / 3 ∧ i = .int .i64 (3 * (k : Int)) ∧ v = .slice (some ⟨w.heap.size, 0, none⟩) k (S.size / 3 + 1) ∧ Hx.Good S.data.toList k ∧ Buf w (S.size / 3 + 1) (Hx.bytes S.data.toList k) wr) (fun _ i _ => S.size + 1 - (intOf i).toNat)
  case atStart => exact ⟨0, Nat.zero_le _, rfl, rfl, fun k hk => absurd hk (by omega), Buf.new _ _ _ (size_madeCells _ _) _⟩
  case round =>
    obtain ⟨k, hk, rfl, rfl, hG, hI⟩ := hrel
    have hm := HM.out
    by_cases hlt : 3 * k < S.size
    · have hkk : k < (S.size + 1) / 3 := by omega
      have hlt1 : 3 * k + 1 < S.size := by omega
      have hkl : k < (S.data.toList.length + 1) / 3 := by rw [HL.out]; exact hkk
      have hi0 : ∀ W : World, (Instr.index 9 (.string S) (.int .i64 (3 * (k : Int)))).run Try.prog W = .ok (.int .u8 (S[3 * k].toNat : Int)) W := by
        intro W; have := idx_str S (3 * k) hlt W; simpa using this
      have hi1 : ∀ W : World, (Instr.index 9 (.string S) (.int .i64 (3 * (k : Int) + 1))).run Try.prog W = .ok (.int .u8 (S[3 * k + 1].toNat : Int)) W := by
        intro W; have := idx_str S (3 * k + 1) hlt1 W; simpa using this
      have a0 := at_str S (3 * k) hlt
      have a1 := at_str S (3 * k + 1) hlt1
      have hb0 := Hx.val_bd S[3 * k]
      have hb1 := Hx.val_bd S[3 * k + 1]
      have hbw := hI.below
      clear hm
      by_cases c1 : Hx.val S[3 * k] < 0
      · have HN := Lib.hid (not_okh hkl (.inl (by rw [a0]; exact c1)))
        clear a0 a1 hI hG
        go_wp2_with fail
        go_quiet ((go_at_call 26; exact quiet_left (digit_any _ _)))
        go_wp2_with fail
        go_ret2
        exact ⟨.inr ⟨HN.out, rfl⟩, below_drewN hbw _⟩
      · by_cases c2 : Hx.val S[3 * k + 1] < 0
        · have HN := Lib.hid (not_okh hkl (.inr (.inl (by rw [a1]; exact c2))))
          clear a0 a1 hI hG
          go_wp2_with fail
          go_quiet ((go_at_call 26; exact quiet_left (digit_any _ _)))
          go_wp2_with fail
          go_ret2
          exact ⟨.inr ⟨HN.out, rfl⟩, below_drewN hbw _⟩
        · by_cases c3 : 0 < k ∧ Hx.at_ S.data.toList (3 * k - 1) ≠ 44
          · obtain ⟨hk0, hne⟩ := c3
            have HN := Lib.hid (not_okh hkl (.inr (.inr ⟨hk0, hne⟩)))
            have hi2 : ∀ W : World, (Instr.index 9 (.string S) (.int .i64 (3 * (k : Int) - 1))).run Try.prog W = .ok (.int .u8 (S[3 * k - 1].toNat : Int)) W := by
              intro W; have := idx_str S (3 * k - 1) (by omega) W
              rwa [show ((3 * k - 1 : Nat) : Int) = 3 * (k : Int) - 1 by omega] at this
            rw [at_str S (3 * k - 1) (by omega)] at hne
            have t2 : ((S[3 * k - 1].toNat : Int) != 44) = true := by
              rw [bne_iff_ne]; intro h; apply hne; apply UInt8.toNat_inj.1; show S[3 * k - 1].toNat = 44; omega
            clear a0 a1 hI hG hne
            go_wp2_with fail
            go_quiet ((go_at_call 26; exact quiet_left (digit_any _ _)))
            go_wp2_with fail
            go_ret2
            exact ⟨.inr ⟨HN.out, rfl⟩, below_drewN hbw _⟩
          · have hG' := Lib.hid (show Hx.Good S.data.toList (k + 1) from by
              intro j hj
              by_cases hjk : j = k
              · subst hjk
                exact ⟨by rw [a0]; omega, by rw [a1]; omega, fun h0 => Classical.byContradiction fun hn => c3 ⟨h0, hn⟩⟩
              · exact hG j (by omega))
            have hbyt := Hx.bytes_snoc S.data.toList k
            have hv : Hx.byt S.data.toList k = UInt8.ofNat (16 * (Hx.val S[3 * k]).toNat + (Hx.val S[3 * k + 1]).toNat) := by unfold Hx.byt; rw [a0, a1]
            rw [hv] at hbyt
            have hd0 : 0 ≤ Hx.val S[3 * k] := by omega
            have hd1 : 0 ≤ Hx.val S[3 * k + 1] := by omega
            have hor := or_nibbles _ _ hd0 hb0.2 hd1 hb1.2
            obtain ⟨bb, hbb⟩ : ∃ b, b = UInt8.ofNat (16 * (Hx.val S[3 * k]).toNat + (Hx.val S[3 * k + 1]).toNat) := ⟨_, rfl⟩
            rw [← hbb] at hor hbyt
            have HB := Lib.hid hbyt
            obtain ⟨i0, hi', hz0, hz1, hz2⟩ := info_parts u8_info
            by_cases hk0 : 0 < k
            · have hi2 : ∀ W : World, (Instr.index 9 (.string S) (.int .i64 (3 * (k : Int) - 1))).run Try.prog W = .ok (.int .u8 (S[3 * k - 1].toNat : Int)) W := by
                intro W; have := idx_str S (3 * k - 1) (by omega) W
                rwa [show ((3 * k - 1 : Nat) : Int) = 3 * (k : Int) - 1 by omega] at this
              have t2 : ((S[3 * k - 1].toNat : Int) != 44) = false := by
                have : Hx.at_ S.data.toList (3 * k - 1) = 44 := Classical.byContradiction fun hn => c3 ⟨hk0, hn⟩
                rw [at_str S (3 * k - 1) (by omega)] at this
                rw [this]; rfl
              clear a0 a1 hv hbyt hG c3 hbb
              go_wp2_with fail
              go_quiet ((go_at_call 26; exact quiet_left (digit_any _ _)))
              go_wp2_with (at_builtin; refine wpList_push _ rfl (.tmp 51) (.tmp 57) 60 rfl 5 i0 Try.underlying60 hi' hz1 w (S.size / 3 + 1) (Hx.bytes S.data.toList k) ((hI.drewN nq).alloc _) (by rw [Hx.bytes_len]; rfl) wr.heap.size 1 bb rfl (new_cell0 _ _ _ _) (by rw [Hx.bytes_len]; omega) ?_; intro w2 hB2)
              rw [← HB.out] at hB2
              rw [Hx.bytes_len]
              go_wp2_with fail
              go_roundw
              case rel => exact ⟨k + 1, by omega, by go_num, rfl, hG'.out, hB2⟩
              case measure => simp [intOf]; omega
            · have hk0 : k ≤ 0 := by omega
              clear a0 a1 hv hbyt hG c3 hbb
              go_wp2_with fail
              go_quiet ((go_at_call 26; exact quiet_left (digit_any _ _)))
              go_wp2_with (at_builtin; refine wpList_push _ rfl (.tmp 51) (.tmp 57) 60 rfl 5 i0 Try.underlying60 hi' hz1 w (S.size / 3 + 1) (Hx.bytes S.data.toList k) ((hI.drewN nq).alloc _) (by rw [Hx.bytes_len]; rfl) wr.heap.size 1 bb rfl (new_cell0 _ _ _ _) (by rw [Hx.bytes_len]; omega) ?_; intro w2 hB2)
              rw [← HB.out] at hB2
              rw [Hx.bytes_len]
              go_wp2_with fail
              go_roundw
              case rel => exact ⟨k + 1, by omega, by go_num, rfl, hG'.out, hB2⟩
              case measure => simp [intOf]; omega
    · obtain rfl : k = (S.size + 1) / 3 := by omega
      have hok : Hx.Okh S.data.toList := .inr ⟨by rw [HL.out]; exact hm, by rw [HL.out]; exact hG⟩
      have hout : Hx.outh S.data.toList = Hx.bytes S.data.toList ((S.size + 1) / 3) := by unfold Hx.outh; rw [HL.out]
      have hconv := conv_blk (w := wr) (g := w.heap.size) (cap := S.size / 3 + 1) (l := Hx.bytes S.data.toList ((S.size + 1) / 3)) (n := (S.size + 1) / 3) (Hx.bytes_len _ _).symm hI.cells
      have hbw := hI.below
      have hU := Lib.hid (show UnhP S.data.toList (tup (Hx.bytes S.data.toList ((S.size + 1) / 3)) 0) from .inl ⟨hok, by rw [hout]⟩)
      clear hok hout hI hG
      go_wp2_with fail
      go_ret2
      exact ⟨hU.out, hbw⟩
theorem unhex_any (S : ByteArray) (w : World) (hl : S.size ≤ 4294967296) : Calls Try.prog 11 #[.string S] w fun e w' => UnhP S.data.toList e ∧ Below w.heap.size w w' := by
  rcases Nat.eq_zero_or_pos S.size with h | h
  · obtain rfl : S = ⟨#[]⟩ := ByteArray.ext (Array.eq_empty_of_size_eq_zero h)
    exact unhex_nil w
  · by_cases hm : S.size % 3 = 2
    · exact unhex_some S w h hl hm
    · exact unhex_mod S w h hl hm
end Go.Proofs.Ytheakfhcllgndaa
