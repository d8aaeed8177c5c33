/- How ends are found (package lead): follow. -/
import Derived.Test.YthlbockphdbpkaaDoorNs
import Derived.Laws.OwnMore
import Derived.Deep.OwnRows
namespace Go.Proofs.YthlbockphdbpkaaDoor
open Go.RowKit Go.Maps
set_option maxRecDepth 100000
/-- The ends that are laid before any is settled. -/
theorem e0_set (z m k r : Nat) : (Ld.e0 z m k ++ List.replicate (r + 1) 0).set k (if k < z then (k : Int) else if k < z + m then -1 else -2) = Ld.e0 z m (k + 1) ++ List.replicate r 0 := by
  rw [List.set_append_right _ _ (by rw [e0_len]; exact Nat.le_refl _), e0_len, Nat.sub_self, e0_succ, List.append_assoc]
  rfl
theorem make_ints (n : Nat) (hn : n ≤ 4096) (W : World) : (Instr.makeSlice 79 (.int .i64 (n : Int)) (.int .i64 (n : Int))).run Tryd.prog W = .ok (.slice (some ⟨W.heap.size, 0, none⟩) n n) (W.alloc (.cells (madeCells #[.int .i64 0] n) 3)) :=
  run_make_row' 79 3 (.int .i64 0) 8 Tryd.underlying79 int_info rfl .i64 .i64 n (by omega) (by omega) W
theorem below_grown {B : Nat} {X Y Z : World} {r : Option Nat} (h : X.grownBy Y r) (h' : Below B Y Z) (hB : X.heap.size ≤ B) : X.grownBy Z r :=
  ⟨h'.os.trans h.os, h'.tape.trans h.tape, h'.output.trans h.output, Nat.le_trans h.size h'.size, fun k hk hne => (h'.block k (by omega)).trans (h.block k hk hne)⟩
set_option maxHeartbeats 4000000 in
theorem follow_any (Z : List ByteArray) (K : List Lk) (g : Nat) (A : Option Addr) (c b mn : Nat) (M : DataW Unit) (W : World)
    (hg : W.heap[g]? = some (.cells #[.slice A (Ld.all Z K).length c, .int .i64 Z.length, .int .i64 K.length, .map (some b), .slice none 0 0] 81 (0, 0)))
    (ht : Rk W W.heap.size A ((Ld.all Z K).map Value.string)) (hag : ∀ x, A = some x → x.block ≠ g) (hm : MapAt W b mn M) (hf : Fst (Ld.all Z K) 0 M) (hcap : (Ld.all Z K).length ≤ c) (hn : (Ld.all Z K).length ≤ 4096) (hs : ∀ k ∈ K, k.tg.size ≤ 9223372036854775807) :
    Calls Tryd.prog 31 #[.pointer (some ⟨g, 0, none⟩)] W fun r w' => r = .returned (.tuple #[]) ∧ Full w' Z K g ⟨A, c, b, W.heap.size, mn, M⟩ ∧ W.grownBy w' (some g) := by
  have hal := all_len Z K
  have hlg := lt_blk hg
  have hbg : b ≠ g := fun e => by
    obtain ⟨es, ck, h1, _⟩ := hm
    rw [e, hg] at h1
    cases h1
  have hmk := make_ints (Ld.all Z K).length hn
  have hgr1 := grown_set W ⟨g, 4, none⟩ (.slice (some ⟨W.heap.size, 0, none⟩) (Ld.all Z K).length (Ld.all Z K).length)
  have hgr : W.grownBy ((W.setCell ⟨g, 4, none⟩ (.slice (some ⟨W.heap.size, 0, none⟩) (Ld.all Z K).length (Ld.all Z K).length)).alloc (.cells (madeCells #[.int .i64 0] (Ld.all Z K).length) 3)) (some g) := grown_then hgr1 (World.grownBy_alloc _ _ _)
  have hx : (W.setCell ⟨g, 4, none⟩ (.slice (some ⟨W.heap.size, 0, none⟩) (Ld.all Z K).length (Ld.all Z K).length)).heap.size = W.heap.size := by simp
  have hA2 : Arr ((W.setCell ⟨g, 4, none⟩ (.slice (some ⟨W.heap.size, 0, none⟩) (Ld.all Z K).length (Ld.all Z K).length)).alloc (.cells (madeCells #[.int .i64 0] (Ld.all Z K).length) 3)) W.heap.size (List.replicate (Ld.all Z K).length 0) := by
    unfold Arr
    have := heap_alloc_new (W.setCell ⟨g, 4, none⟩ (.slice (some ⟨W.heap.size, 0, none⟩) (Ld.all Z K).length (Ld.all Z K).length)) (.cells (madeCells #[.int .i64 0] (Ld.all Z K).length) 3)
    rw [hx] at this
    rw [this, List.map_replicate, ← toList_madeCells_one (.int .i64 0) (Ld.all Z K).length]
  have hg2 := ((box_below (W.setCell ⟨g, 4, none⟩ (.slice (some ⟨W.heap.size, 0, none⟩) (Ld.all Z K).length (Ld.all Z K).length)) (.cells (madeCells #[.int .i64 0] (Ld.all Z K).length) 3)).block g (by rw [hx]; exact hlg)).trans (set_blk hg 4 (.slice (some ⟨W.heap.size, 0, none⟩) (Ld.all Z K).length (Ld.all Z K).length))
  have hg1 : (W.alloc (.cells (madeCells #[.int .i64 0] (Ld.all Z K).length) 3)).heap[g]? = some (.cells #[.slice A (Ld.all Z K).length c, .int .i64 Z.length, .int .i64 K.length, .map (some b), .slice none 0 0] 81 (0, 0)) := ((box_below W _).block g hlg).trans hg
  have hN : Nms ((W.setCell ⟨g, 4, none⟩ (.slice (some ⟨W.heap.size, 0, none⟩) (Ld.all Z K).length (Ld.all Z K).length)).alloc (.cells (madeCells #[.int .i64 0] (Ld.all Z K).length) 3)) W.heap.size Z K g ⟨A, c, b, W.heap.size, mn, M⟩ := by
    refine ⟨hlg, fun i v hv => ?_, fun h0 => ?_, World.ownsMap.lt hm, World.ownsMap.kept hm hgr (fun e => hbg (by injection e)), hf, hcap⟩
    · rw [cell_blk hg2, ← Array.getElem?_toList]
      exact hv
    · obtain ⟨b', o', e', hb', hc'⟩ := ht h0
      exact ⟨b', o', e', hb', fun j u hu => (World.cell?_of_block (a := ⟨b', o' + j, none⟩) (hgr.block b' hb' (fun ee => hag _ e' (by injection ee)))).trans (hc' j u hu)⟩
  have e0 := cell_blk hg 0
  have f4 := frozen_blk hg1 4
  have e4 := cell_blk hg1 4
  have HN := Lib.hid hN
  have HA := Lib.hid hA2
  have HG := Lib.hid hgr
  have n0 := hN.at_ 0 _ rfl
  have n1 := hN.at_ 1 _ rfl
  have n2 := hN.at_ 2 _ rfl
  have n4 := hN.at_ 4 _ rfl
  have HGB : Hid (g < W.heap.size) := Lib.hid hlg
  have hsz : ((W.setCell ⟨g, 4, none⟩ (.slice (some ⟨W.heap.size, 0, none⟩) (Ld.all Z K).length (Ld.all Z K).length)).alloc (.cells (madeCells #[.int .i64 0] (Ld.all Z K).length) 3)).heap.size = W.heap.size + 1 := by simp
  clear hcap hN hA2 hgr hgr1 hx hg2 hg1 hm hf ht hag hbg hg
  generalize hnn : (Ld.all Z K).length = n at *
  have HNN := Lib.hid hnn
  clear hnn
  change W.cell? ⟨g, 0, none⟩ = some (.slice A n c) at e0
  change (W.alloc (.cells (madeCells #[.int .i64 0] n) 3)).cell? ⟨g, 4, none⟩ = some (.slice none 0 0) at e4
  generalize hz : Z.length = z at *
  generalize hk' : K.length = m at *
  have HZ := Lib.hid hz
  have HK := Lib.hid hk'
  have HAL := Lib.hid hal
  clear hz hk' hal
  go_enter Tryd.func31, Tryd.ntmps31
  go_wp2_with fail
  clear hmk
  generalize hW2 : (W.setCell ⟨g, 4, none⟩ (.slice (some ⟨W.heap.size, 0, none⟩) n n)).alloc (.cells (madeCells #[.int .i64 0] n) 3) = W2 at *
  go_loopw [18] (fun i wr => ∃ k : Nat, k ≤ n ∧ i = .int .i64 k ∧ Hid (Arr wr W.heap.size (Ld.e0 z m k ++ List.replicate (n - k) 0)) ∧ Below W.heap.size W2 wr ∧ W.heap.size < wr.heap.size) (fun i _ => n - (intOf i).toNat)
  case atStart => exact ⟨0, Nat.zero_le _, rfl, HA, Below.refl _ _, by omega⟩
  case round =>
    obtain ⟨k, hk, rfl, HR, bw, hsw⟩ := hrel
    have HN3 := Lib.hid (HN.out.below bw)
    have m1 := HN3.out.at_ 1 _ rfl
    have m2 := HN3.out.at_ 2 _ rfl
    have m4 := HN3.out.at_ 4 _ rfl
    rw [HZ.out] at m1
    rw [HK.out] at m2
    rw [HNN.out] at m4
    change wr.cell? ⟨g, 4, none⟩ = some (.slice (some ⟨W.heap.size, 0, none⟩) n n) at m4
    by_cases hlt : k < n
    · have hr : n - k = (n - (k + 1)) + 1 := by omega
      rw [hr] at HR
      have hck : (Ld.e0 z m k ++ List.replicate ((n - (k + 1)) + 1) 0)[k]? = some 0 := by
        rw [List.getElem?_append_right (by rw [e0_len]; exact Nat.le_refl _), e0_len, Nat.sub_self]
        rfl
      have ce := HR.out.cell hck
      have cf := frozen_blk HR.out k
      have HSET := Lib.hid (e0_set z m k (n - (k + 1)))
      have HB := Lib.hid bw
      have hz1 : z ≤ 4294967296 := by have := HAL.out; omega
      have hz2 : m ≤ 4294967296 := by have := HAL.out; omega
      clear hr hck bw n0 n1 n2 n4 e0 e4 f4
      by_cases h1 : k < z
      · have HV : Hid (Arr (wr.setCell ⟨W.heap.size, k, none⟩ (.int .i64 (k : Int))) W.heap.size (Ld.e0 z m (k + 1) ++ List.replicate (n - (k + 1)) 0)) := Lib.hid (by
          have := HR.out.set k (k : Int)
          rw [if_pos h1] at HSET
          rw [HSET.out] at this
          exact this)
        have hbq := HB.out.setCell (p := ⟨W.heap.size, k, none⟩) (Nat.le_refl _) (.int .i64 (k : Int))
        clear HR
        have HB2 := Lib.hid hbq
        clear hbq
        go_wp2_with fail
        go_roundw
        case rel => exact ⟨k + 1, by omega, by go_num, HV, HB2.out, by simp; omega⟩
        case measure => simp [intOf]; omega
      · by_cases h2 : k < z + m
        · have HV : Hid (Arr (wr.setCell ⟨W.heap.size, k, none⟩ (.int .i64 (-1))) W.heap.size (Ld.e0 z m (k + 1) ++ List.replicate (n - (k + 1)) 0)) := Lib.hid (by
            have := HR.out.set k (-1)
            rw [if_neg h1, if_pos h2] at HSET
            rw [HSET.out] at this
            exact this)
          have HT : Hid (decide (z ≤ k ∧ k < z + m) = true) := Lib.hid (decide_eq_true (by omega))
          have hbq := HB.out.setCell (p := ⟨W.heap.size, k, none⟩) (Nat.le_refl _) (.int .i64 (-1))
          clear HR
          have HB2 := Lib.hid hbq
          clear hbq
          go_wp2_with (go_at_call 40; ((with_reducible refine (isLink_any g z m k _ m1 m2 hz1 hz2).mono ?_); rw [HT.out]; rintro e w' ⟨rfl, q, rfl⟩))
          go_roundw
          case rel => exact ⟨k + 1, by omega, by go_num, HV, below_drewN HB2.out _, by simp; omega⟩
          case measure => simp [intOf]; omega
        · have HV : Hid (Arr (wr.setCell ⟨W.heap.size, k, none⟩ (.int .i64 (-2))) W.heap.size (Ld.e0 z m (k + 1) ++ List.replicate (n - (k + 1)) 0)) := Lib.hid (by
            have := HR.out.set k (-2)
            rw [if_neg h1, if_neg h2] at HSET
            rw [HSET.out] at this
            exact this)
          have HT : Hid (decide (z ≤ k ∧ k < z + m) = false) := Lib.hid (decide_eq_false (by omega))
          have hbq := HB.out.setCell (p := ⟨W.heap.size, k, none⟩) (Nat.le_refl _) (.int .i64 (-2))
          clear HR
          have HB2 := Lib.hid hbq
          clear hbq
          go_wp2_with (go_at_call 40; ((with_reducible refine (isLink_any g z m k _ m1 m2 hz1 hz2).mono ?_); rw [HT.out]; rintro e w' ⟨rfl, q, rfl⟩))
          go_roundw
          case rel => exact ⟨k + 1, by omega, by go_num, HV, below_drewN HB2.out _, by simp; omega⟩
          case measure => simp [intOf]; omega
    · obtain rfl : k = n := by omega
      rw [Nat.sub_self, List.replicate_zero, List.append_nil] at HR
      have HI0 : Hid (Ld.Inv Z K (Ld.e0 z m k)) := Lib.hid (by
        have := e0_inv Z K
        rw [HZ.out, HK.out, HNN.out] at this
        exact this)
      clear m1 m2 n0 n1 n2 n4 e0 e4 f4
      go_wp2_with fail
      go_loopw [57] (fun i wr2 => ∃ (j : Nat) (e : List Int), j ≤ k ∧ i = .int .i64 j ∧ Hid (Arr wr2 W.heap.size e) ∧ Hid (Ld.Inv Z K e) ∧ Hid (∀ p, p < j → e[p]? = some (Ld.code Z K p)) ∧ Below W.heap.size W2 wr2) (fun i _ => k - (intOf i).toNat)
      case atStart => exact ⟨0, _, Nat.zero_le _, rfl, HR, HI0, Lib.hid (fun p hp => absurd hp (Nat.not_lt_zero _)), bw⟩
      case round =>
        clear HR HI0 bw HN3 m4
        obtain ⟨j, e, hj, rfl, HR, HI, HP, bw⟩ := hrel
        by_cases hlt : j < k
        · have HC := Lib.hid (settle_any Z K g ⟨A, c, b, W.heap.size, mn, M⟩ e j wr (HN.out.below bw) HR.out HI.out (by rw [HNN.out]; exact hlt) (by rw [HNN.out]; exact hn) hs)
          go_wp2_with (go_at_call 50; refine HC.out.mono ?_; rintro r w5 ⟨rfl, hsp, hb5⟩; have HSP := Lib.hid hsp; have HB5 := Lib.hid hb5; clear hsp hb5)
          obtain ⟨e2, ha2, hi2, hj2, hk2⟩ := HSP.out
          go_roundw
          case rel =>
            refine ⟨j + 1, e2, by omega, by go_num, Lib.hid ha2, Lib.hid hi2, Lib.hid (fun p hp => ?_), bw.trans HB5.out⟩
            by_cases hpj : p < j
            · exact hk2 p (HP.out p hpj)
            · obtain rfl : p = j := by omega
              exact hj2
          case measure => simp [intOf]; omega
        · obtain rfl : j = k := by omega
          go_wp2_with fail
          go_end0
          refine ⟨rfl, ⟨(HN.out.below bw).more (by have := bw.size; omega), fun p hp => ?_, ?_⟩, below_grown HG.out bw (Nat.le_refl _)⟩
          · exact HR.out.cell (HP.out p (by rw [← HNN.out]; exact hp))
          · have := bw.size
            show W.heap.size < wr.heap.size
            omega
end Go.Proofs.YthlbockphdbpkaaDoor
