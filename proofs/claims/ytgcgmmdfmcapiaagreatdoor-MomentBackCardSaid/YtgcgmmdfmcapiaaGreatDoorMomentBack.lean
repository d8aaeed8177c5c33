/- The walk of layer 7's statement MomentBack. -/
import Derived.Test.YtgcgmmdfmcapiaaGreatDoorLives07
import Derived.OwnWalk
import Derived.Deep.DeepCutAuto
import Derived.Deep.CutBlock
import Derived.OpenShut
namespace Go.Proofs.YtgcgmmdfmcapiaaGreatDoor
open Go.RowKit
/-- Texts are few, and short. -/
def smB7 (n : Nat) (L : List ByteArray) : Bool := decide (n ≤ 20 ∧ ∀ i, i < n → (L.getD i ByteArray.empty).size ≤ 1000)
set_option maxHeartbeats 1000000 in
theorem small7_any (A : Option Addr) (n c : Nat) (L : List ByteArray) (hn : n ≤ 9223372036854775807) (w : World) (hz : ∀ i, i < n → (L.getD i ByteArray.empty).size ≤ 9223372036854775807) (B : Nat) (hS : Sl w B A n (fun i => .string (L.getD i ByteArray.empty))) :
    Calls Tryz.prog 10 #[.slice A n c] w fun e w' => e = .returned (.bool (smB7 n L)) ∧ w = w' := by
  have HZ := Lib.hid hz
  clear hz
  go_enter Tryz.func10, Tryz.ntmps10
  go_wp2_with fail
  go_loop [7] (fun i => ∃ k : Nat, k ≤ n ∧ k ≤ 20 ∧ i = .int .i64 k ∧ Hid (∀ j, j < k → (L.getD j ByteArray.empty).size ≤ 1000)) (fun i => n - (intOf i).toNat)
  case atStart => exact ⟨0, Nat.zero_le _, Nat.zero_le _, rfl, Lib.hid fun j hj => absurd hj (by omega)⟩
  case round =>
    obtain ⟨k, hk, hk20, rfl, hA⟩ := hrel
    by_cases hlt : k < n
    · obtain ⟨ad, rfl, hal, hc⟩ := hS.at_ hlt
      change w.cell? (ad.add k) = some (.string (L.getD k ByteArray.empty)) at hc
      have hz := HZ.out k hlt
      by_cases h20 : k = 20
      · have HE := Lib.hid (show false = smB7 n L by unfold smB7; symm; rw [decide_eq_false_iff_not]; omega)
        have t1 : ((k : Int) == 20) = true := by rw [beq_iff_eq]; omega
        generalize L.getD k ByteArray.empty = X at *
        clear h20
        go_wp2_with fail
        go_ret
        exact ⟨ret_bool HE.out, rfl⟩
      · have t1 : ((k : Int) == 20) = false := by rw [beq_eq_false_iff_ne]; omega
        by_cases hx : (L.getD k ByteArray.empty).size ≤ 1000
        · have HA := Lib.hid (show ∀ j, j < k + 1 → (L.getD j ByteArray.empty).size ≤ 1000 from fun j hj => by
            rcases Nat.lt_or_ge j k with h | h
            · exact hA.out j h
            · obtain rfl : j = k := by omega
              exact hx)
          have hk21 : k + 1 ≤ 20 := by omega
          generalize L.getD k ByteArray.empty = X at *
          clear h20 hA
          go_wp2_with fail
          go_round
          case rel => exact ⟨k + 1, by omega, hk21, by go_num, HA⟩
          case measure => simp [intOf]; omega
        · have HE := Lib.hid (show false = smB7 n L by unfold smB7; symm; rw [decide_eq_false_iff_not]; exact fun h => hx (h.2 k hlt))
          have hx2 : 1000 < (L.getD k ByteArray.empty).size := by omega
          generalize L.getD k ByteArray.empty = X at *
          clear h20 hA hx
          go_wp2_with fail
          go_ret
          exact ⟨ret_bool HE.out, rfl⟩
    · obtain rfl : k = n := by omega
      have HE := Lib.hid (show true = smB7 k L by unfold smB7; symm; rw [decide_eq_true_eq]; exact ⟨hk20, hA.out⟩)
      clear hA
      go_wp2_with fail
      go_ret
      exact ⟨ret_bool HE.out, rfl⟩
theorem small7_is (A : Option Addr) (n c : Nat) (L : List ByteArray) (v : Bool) (hn : n ≤ 9223372036854775807) (w : World) (hz : ∀ i, i < n → (L.getD i ByteArray.empty).size ≤ 9223372036854775807) (B : Nat) (hS : Sl w B A n (fun i => .string (L.getD i ByteArray.empty))) (hv : smB7 n L = v) :
    Calls Tryz.prog 10 #[.slice A n c] w fun e w' => e = .returned (.bool v) ∧ w = w' := by
  subst hv
  exact small7_any A n c L hn w hz B hS
/-- What is kept of the boxes of a moment and of an until. -/
structure Kp (w W : World) (ms mc : Int) (u : Ut) : Prop where
  m0 : W.cell? ⟨w.heap.size, 0, none⟩ = some (.int .i64 ms)
  m1 : W.cell? ⟨w.heap.size, 1, none⟩ = some (.int .u8 mc)
  u0 : W.cell? ⟨w.heap.size + 1, 0, none⟩ = some (.int .i64 u.y)
  u1 : W.cell? ⟨w.heap.size + 1, 1, none⟩ = some (.int .i64 u.m)
  u2 : W.cell? ⟨w.heap.size + 1, 2, none⟩ = some (.int .u8 u.k)
  u3 : W.cell? ⟨w.heap.size + 1, 3, none⟩ = some (.int .i64 u.n)
  u4 : W.cell? ⟨w.heap.size + 1, 4, none⟩ = some (.int .i64 u.d)
  u5 : W.cell? ⟨w.heap.size + 1, 5, none⟩ = some (.int .i64 u.s)
  u6 : W.cell? ⟨w.heap.size + 1, 6, none⟩ = some (.int .u8 u.c)
  lt : w.heap.size + 1 < W.heap.size
  env : Env W
  bel : Below w.heap.size w W
theorem Kp.on {w W W' : World} {ms mc : Int} {u : Ut} (h : Kp w W ms mc u) (hb : Below W.heap.size W W') : Kp w W' ms mc u := by
  obtain ⟨hc, _⟩ := bcell hb
  have hl := h.lt
  have hl' : w.heap.size < W.heap.size := by omega
  have hz := hb.size
  exact ⟨(hc _ _ hl').trans h.m0, (hc _ _ hl').trans h.m1, (hc _ _ hl).trans h.u0, (hc _ _ hl).trans h.u1, (hc _ _ hl).trans h.u2, (hc _ _ hl).trans h.u3, (hc _ _ hl).trans h.u4, (hc _ _ hl).trans h.u5, (hc _ _ hl).trans h.u6,
    by omega, h.env.below hb, h.bel.trans (hb.mono (Nat.le_of_lt hl'))⟩
theorem Kp.lt' {w W : World} {ms mc : Int} {u : Ut} (h : Kp w W ms mc u) : w.heap.size < W.heap.size := by have := h.lt; omega
theorem Kp.al {w W : World} {ms mc : Int} {u : Ut} (h : Kp w W ms mc u) (o : Obj) : Kp w (W.alloc o) ms mc u := h.on ((Below.refl _ _).alloc (Nat.le_refl _) o)
theorem mparse_at (S : ByteArray) (s c : Int) (w : World) (hE : Env w) (c0 : 0 ≤ c) (h : Mo.right s c = true) (hS : S.data.toList = Mo.txt s c) : Calls Tryz.prog 12 #[.string S] w fun e w' => e = .returned (.tuple #[.agg #[.int .i64 s, .int .u8 c], .int .i64 0]) ∧ Below w.heap.size w w' := by
  obtain ⟨h1, h2, _⟩ := (Mo.right_iff s c).1 h
  have hl := txt_len s h1 h2
  have hr := ltr_len c
  have hz : S.data.toList.length = S.size := by simp
  have e : ((c.toNat : Nat) : Int) = c := by omega
  have hp := mparse_any S w hE (by rw [hS] at hz; unfold Mo.txt at hz; rw [List.length_append] at hz; omega)
  rw [hS, ← e, prs_txt s c.toNat (by rw [e]; exact h)] at hp
  unfold MPrsE at hp
  simp only at hp
  rw [e] at hp
  exact hp
/-- What ParseUntil answers of the first ones of four texts at block g. -/
def PU (g : Nat) (T0 T1 T2 T3 : ByteArray) (n c : Nat) (v : Ut) (z : Int) : Prop := ∀ W, Env W → Four W g T0 T1 T2 T3 → Calls Tryz.prog 14 #[.slice (some ⟨g, 0, none⟩) n c] W fun e w' => e = .returned (.tuple #[.agg #[.int .i64 v.y, .int .i64 v.m, .int .u8 v.k, .int .i64 v.n, .int .i64 v.d, .int .i64 v.s, .int .u8 v.c], .int .i64 0, .int .i64 z]) ∧ Below W.heap.size W w'
theorem pu_of (g : Nat) (T0 T1 T2 T3 : ByteArray) (n c : Nat) (v : Ut) (z : Int) (L : List ByteArray) (hL : [T0, T1, T2, T3].take n = L) (hn : n ≤ 4) (s0 : T0.size ≤ 4096) (s1 : T1.size ≤ 4096) (s2 : T2.size ≤ 4096) (s3 : T3.size ≤ 4096) (h : Mo.prsU L = (v, 0, z)) : PU g T0 T1 T2 T3 n c v z := by
  intro W hE hF
  have hg : ∀ i, i < n → L.getD i ByteArray.empty = [T0, T1, T2, T3].getD i ByteArray.empty := fun i hi => by
    rw [← hL, List.getD_eq_getElem?_getD, List.getElem?_take_of_lt hi, List.getD_eq_getElem?_getD]
  have hp := uprs_any (some ⟨g, 0, none⟩) n c L (by rw [← hL, List.length_take]; simp; omega) (by omega) (fun _ i hi => by
    rw [hg i hi]
    have hi4 : i = 0 ∨ i = 1 ∨ i = 2 ∨ i = 3 := by omega
    rcases hi4 with rfl | rfl | rfl | rfl
    · exact s0
    · exact s1
    · exact s2
    · exact s3) W hE W.heap.size (Nat.le_refl _) (fun _ => ⟨_, rfl, hF.lt, fun i hi => by
    show _ = some (Value.string (L.getD i ByteArray.empty))
    rw [at0, hg i hi]
    have hi4 : i = 0 ∨ i = 1 ∨ i = 2 ∨ i = 3 := by omega
    rcases hi4 with rfl | rfl | rfl | rfl
    · exact hF.c0
    · exact hF.c1
    · exact hF.c2
    · exact hF.c3⟩)
  rw [h] at hp
  exact hp
/-- In what an until's texts without the last one differ from it. -/
inductive Lacks (u : Ut) : Nat → Nat → Ut → Prop
  | year : ((0 : Int) == u.y) = false → (u.y == 0) = false → Lacks u 1 0 ⟨0, 0, 0, 0, 0, 0, 0⟩
  | month : ((1 : Int) == u.m) = false → (u.m == 1) = false → Lacks u 2 1 ⟨u.y, 1, 0, 1, 0, 0, 0⟩
  | kind : ((0 : Int) == u.k) = false → (u.k == 0) = false → Lacks u 3 2 ⟨u.y, u.m, 0, 1, 0, 0, 0⟩
  | num : u.k = 0 → ((1 : Int) == u.n) = false → (u.n == 1) = false → Lacks u 3 2 ⟨u.y, u.m, 0, 1, 0, 0, 0⟩
  | dow : u.k = 0 → u.n = 1 → ((0 : Int) == u.d) = false → (u.d == 0) = false → Lacks u 3 2 ⟨u.y, u.m, 0, 1, 0, 0, 0⟩
  | sec : ((0 : Int) == u.s) = false → (u.s == 0) = false → Lacks u 4 3 ⟨u.y, u.m, u.k, u.n, u.d, 0, 0⟩
  | clk : u.s = 0 → ((0 : Int) == u.c) = false → (u.c == 0) = false → Lacks u 4 3 ⟨u.y, u.m, u.k, u.n, u.d, 0, 0⟩
theorem nb2 {a b : Int} (h : b ≠ a) : (a == b) = false ∧ (b == a) = false := ⟨by rw [beq_eq_false_iff_ne]; exact fun e => h e.symm, by rw [beq_eq_false_iff_ne]; exact h⟩
theorem texts_small (u : Ut) (h : Mo.un u = true) (_c0 : 0 ≤ u.c) : (Mo.t0 u).size ≤ 4096 ∧ (Mo.t1 u).size ≤ 4096 ∧ (Mo.t2 u).size ≤ 4096 ∧ (Mo.t3 u).size ≤ 4096 := by
  obtain ⟨⟨y1, y2, m1, m2⟩, hd, hr⟩ := unt_parts h
  obtain ⟨h1, h2, h3⟩ := (Mo.right_iff _ _).1 hr
  refine ⟨?_, ?_, ?_, ?_⟩
  · have e : Lib.itoa u.y = Lib.decDigits u.y.toNat := by unfold Lib.itoa; rw [if_neg (by omega)]
    unfold Mo.t0
    rw [size_ba, e]
    have := ten_len u.y.toNat (by omega)
    omega
  · have := (Wd.mons_back (u.m - 1).toNat (by omega)).2.1
    show (Wd.three Wd.mons (u.m - 1).toNat).size ≤ 4096
    omega
  · have := txt_size u.k u.n u.d hd
    show (Dy.txt u.k u.n u.d).size ≤ 4096
    omega
  · unfold Mo.t3
    rw [size_ba]
    have := txt_len u.s h1 h2
    have := ltr_len u.c
    unfold Mo.txt
    rw [List.length_append]
    omega
/-- What the texts that are needed tell, and those without the last one. -/
theorem back_opts (u : Ut) (h : Mo.un u = true) (c0 : 0 ≤ u.c) : ∃ nd nd' v z, Mo.ndU u = nd ∧ Lacks u nd nd' v ∧ ∀ g, PU g (Mo.t0 u) (Mo.t1 u) (Mo.t2 u) (Mo.t3 u) nd nd u 0 ∧ PU g (Mo.t0 u) (Mo.t1 u) (Mo.t2 u) (Mo.t3 u) nd' nd v z := by
  obtain ⟨s0, s1, s2, s3⟩ := texts_small u h c0
  rcases back_cases h c0 with ⟨e, r1, r2, ne⟩ | ⟨e, r1, r2, ne⟩ | ⟨e, r1, r2, ne⟩ | ⟨e, r1, r2, ne⟩
  · refine ⟨4, 3, _, 0, e, ?_, fun g => ⟨pu_of g _ _ _ _ 4 4 _ _ _ rfl (by omega) s0 s1 s2 s3 r1, pu_of g _ _ _ _ 3 4 _ _ _ rfl (by omega) s0 s1 s2 s3 r2⟩⟩
    by_cases hs : u.s = 0
    · have := nb2 (a := 0) (b := u.c) (fun hc => ne ⟨hs, hc⟩)
      exact .clk hs this.1 this.2
    · have := nb2 hs
      exact .sec this.1 this.2
  · refine ⟨3, 2, _, 0, e, ?_, fun g => ⟨pu_of g _ _ _ _ 3 3 _ _ _ rfl (by omega) s0 s1 s2 s3 r1, pu_of g _ _ _ _ 2 3 _ _ _ rfl (by omega) s0 s1 s2 s3 r2⟩⟩
    by_cases hk : u.k = 0
    · by_cases hn : u.n = 1
      · have := nb2 (a := 0) (b := u.d) (fun hd => ne ⟨hk, hn, hd⟩)
        exact .dow hk hn this.1 this.2
      · have := nb2 hn
        exact .num hk this.1 this.2
    · have := nb2 hk
      exact .kind this.1 this.2
  · refine ⟨2, 1, _, 0, e, ?_, fun g => ⟨pu_of g _ _ _ _ 2 2 _ _ _ rfl (by omega) s0 s1 s2 s3 r1, pu_of g _ _ _ _ 1 2 _ _ _ rfl (by omega) s0 s1 s2 s3 r2⟩⟩
    have := nb2 ne
    exact .month this.1 this.2
  · refine ⟨1, 0, _, 5, e, ?_, fun g => ⟨pu_of g _ _ _ _ 1 1 _ _ _ rfl (by omega) s0 s1 s2 s3 r1, pu_of g _ _ _ _ 0 1 _ _ _ rfl (by omega) s0 s1 s2 s3 r2⟩⟩
    have := nb2 ne
    exact .year this.1 this.2
theorem at_K (d t K : Int) (w : World) (h1 : -719162 ≤ d) (h2 : d ≤ 2932896) (h3 : -604800 ≤ t) (h4 : t ≤ 604800) (hK : d * 86400 + t = K) :
    Calls Tryz.prog 16 #[.int .i64 d, .int .i64 t] w fun e w' => e = .returned (.tuple #[.int .i64 K, .int .i64 0]) ∧ Below w.heap.size w w' := by
  subst hK
  exact at_yes d t w h1 h2 h3 h4
theorem mparse_r (S : ByteArray) (t : Int) (k : Nat) (z : Int) (w : World) (hE : Env w) (hs : S.size ≤ 4096) (h : Mo.prs S.data.toList = (t, k, z)) : Calls Tryz.prog 12 #[.string S] w fun e w' => e = .returned (.tuple #[.agg #[.int .i64 t, .int .u8 (k : Int)], .int .i64 z]) ∧ Below w.heap.size w w' := mparse_lit S t k z w hE hs h
set_option maxRecDepth 100000 in
set_option maxHeartbeats 8000000 in
theorem back_in (ms mc : Int) (S : ByteArray) (y m k n d us uc : Int) (A : Option Addr) (q c : Nat) (L : List ByteArray) (mc0 : 0 ≤ mc) (uc0 : 0 ≤ uc) (hs : S.size ≤ 1000) (hq : q ≤ 20) (HL : Hid (L.length = q)) (HZ : Hid (∀ i, i < q → (L.getD i ByteArray.empty).size ≤ 1000)) (HSM : Hid (smB7 q L = true)) (w : World) (HE : Hid (Env w)) (HS : Hid (Sl w w.heap.size A q (fun i => .string (L.getD i ByteArray.empty)))) :
    Calls Tryz.prog 4 #[.agg #[.int .i64 ms, .int .u8 mc], .string S, .agg #[.int .i64 y, .int .i64 m, .int .u8 k, .int .i64 n, .int .i64 d, .int .i64 us, .int .u8 uc], .slice A q c] w fun e w' => e = .returned (.bool true) ∧ Below w.heap.size w w' := by
  have K0 : Kp w ((w.alloc (.cells #[.int .i64 ms, .int .u8 mc] 27)).alloc (.cells #[.int .i64 y, .int .i64 m, .int .u8 k, .int .i64 n, .int .i64 d, .int .i64 us, .int .u8 uc] 35)) ms mc ⟨y, m, k, n, d, us, uc⟩ :=
    ⟨by go_simp, by go_simp, by go_simp, by go_simp, by go_simp, by go_simp, by go_simp, by go_simp, by go_simp, by simp, (HE.out.alloc _).alloc _, ((Below.refl _ _).alloc (Nat.le_refl _) _).alloc (by simp) _⟩
  have HK0 := Lib.hid K0
  clear K0
  go_enter Tryz.func4, Tryz.ntmps4
  go_wp2_with fail
  refine (lives07 _ (Lib.hid HK0.out.env)).mono ?_
  rintro e w1 ⟨rfl, b1⟩
  have K1 := HK0.out.on b1
  clear b1 HK0
  go_wp2_with fail
  refine (small7_is A q c L true (by omega) _ (fun i hi => by have := HZ.out i hi; omega) _ (HS.out.below K1.bel) HSM.out).mono ?_
  rintro e w' ⟨rfl, rfl⟩
  go_upto_if 45 with fail
  go_cut [] from 36 to 45 (fun wx => wx = w1)
  case first => go_wp2_with fail; go_meet; case rel => rfl
  case rest =>
  subst hcut
  go_step
  go_step
  go_cut [] from 9 to 64 (fun wx => Kp w wx ms mc ⟨y, m, k, n, d, us, uc⟩)
  case first =>
    have hl1 := K1.lt'
    have c0 := K1.m0
    have c1 := K1.m1
    cases hr : Mo.right ms mc with
    | false =>
      have HR := Lib.hid hr
      have HK := Lib.hid K1
      clear hr K1
      go_wp2_with fail
      refine (mtext_no ms mc _ HR.out).mono ?_
      rintro e w2 ⟨rfl, b2⟩
      have K2 := HK.out.on b2
      go_wp2_with fail
      go_meet
      case rel => exact K2
    | true =>
      obtain ⟨T, hT⟩ : ∃ T : ByteArray, T.data.toList = Mo.txt ms mc := ⟨⟨(Mo.txt ms mc).toArray⟩, by simp⟩
      have HR := Lib.hid hr
      have HT := Lib.hid hT
      have HK := Lib.hid K1
      clear hr hT K1
      go_wp2_with fail
      refine (mtext_yes ms mc T _ HK.out.env HR.out mc0 HT.out).mono ?_
      rintro e w2 ⟨rfl, b2⟩
      obtain ⟨hc2, _⟩ := bcell b2
      have K2 := Lib.hid (HK.out.on b2)
      have z2 := K2.out.lt'
      clear b2 HK
      go_wp2_with fail
      refine (mparse_at T ms mc _ K2.out.env mc0 HR.out HT.out).mono ?_
      rintro e w3 ⟨rfl, b3⟩
      obtain ⟨hc3, _⟩ := bcell b3
      have K3 := Lib.hid (K2.out.on b3)
      have z3 := K3.out.lt'
      clear b3 K2
      go_wp2_with fail
      go_meet
      case rel => exact K3.out.al _
  case rest =>
  have K5 := hcut
  clear hcut K1
  go_step
  go_step
  go_cut [] from 9 to 92 (fun wx => Kp w wx ms mc ⟨y, m, k, n, d, us, uc⟩)
  case first =>
    obtain ⟨t, j, z, hp⟩ : ∃ t j z, Mo.prs S.data.toList = (t, j, z) := ⟨_, _, _, rfl⟩
    by_cases hz : z = 0
    · subst hz
      have hr : Mo.right t (j : Int) = true := by
        have := prs_right S.data.toList (by rw [hp])
        rw [hp] at this
        exact this
      obtain ⟨T, hT⟩ : ∃ T : ByteArray, T.data.toList = Mo.txt t j := ⟨⟨(Mo.txt t j).toArray⟩, by simp⟩
      have HP := Lib.hid hp
      have HR := Lib.hid hr
      have HT := Lib.hid hT
      have HK := Lib.hid K5
      have hl5 := K5.lt'
      clear hp hr hT K5
      go_wp2_with fail
      refine (mparse_r S t j 0 _ HK.out.env (by omega) HP.out).mono ?_
      rintro e w2 ⟨rfl, b2⟩
      have K2 := Lib.hid (HK.out.on b2)
      clear b2 HK
      go_wp2_with fail
      refine (mtext_yes t j T _ (K2.out.al _).env HR.out (by omega) HT.out).mono ?_
      rintro e w3 ⟨rfl, b3⟩
      obtain ⟨hc3, _⟩ := bcell b3
      have K3 := Lib.hid ((K2.out.al _).on b3)
      have l3 : w2.heap.size < w3.heap.size := by have := b3.size; simp at this; omega
      clear b3 K2
      go_wp2_with fail
      refine (mparse_at T t j _ K3.out.env (by omega) HR.out HT.out).mono ?_
      rintro e w4 ⟨rfl, b4⟩
      obtain ⟨hc4, _⟩ := bcell b4
      have K4 := Lib.hid (K3.out.on b4)
      have l4 : w2.heap.size < w4.heap.size := by have := b4.size; omega
      clear b4 K3
      go_wp2_with fail
      go_meet
      case rel => exact K4.out.al _
    · have t1 : (z == 0) = false := by rw [beq_eq_false_iff_ne]; exact hz
      have HP := Lib.hid hp
      have HK := Lib.hid K5
      clear hp hz K5
      go_wp2_with fail
      refine (mparse_r S t j z _ HK.out.env (by omega) HP.out).mono ?_
      rintro e w2 ⟨rfl, b2⟩
      have K2 := Lib.hid (HK.out.on b2)
      clear b2 HK
      go_wp2_with fail
      go_meet
      case rel => exact K2.out.al _
  case rest =>
  have K6 := hcut
  clear hcut K5
  go_step
  go_step
  go_cut [] from 9 to 180 (fun wx => Kp w wx ms mc ⟨y, m, k, n, d, us, uc⟩)
  case first =>
    cases hu : Mo.un ⟨y, m, k, n, d, us, uc⟩ with
    | false =>
      have HUN := Lib.hid hu
      have HK := Lib.hid K6
      obtain ⟨-, -, u0, u1, u2, u3, u4, u5, u6, l6, -, -⟩ := K6
      clear hu
      go_wp2_with fail
      refine (utext_no ⟨y, m, k, n, d, us, uc⟩ _ HUN.out).mono ?_
      rintro e w7 ⟨rfl, b7⟩
      have K7 := HK.out.on b7
      go_wp2_with fail
      go_meet
      case rel => exact K7
    | true =>
      obtain ⟨nd, nd', v, z, hnd, hlack, hPU⟩ := back_opts ⟨y, m, k, n, d, us, uc⟩ hu uc0
      have htx := fun (W : World) (hE : Env W) => utext_yes ⟨y, m, k, n, d, us, uc⟩ W hE hu uc0
      rw [hnd] at htx
      have hrt := (unt_parts hu).2.2
      have hI := in_all k n d y m
      obtain ⟨V, Z, hVZ⟩ : ∃ V Z, Mo.inV k n d y m = (V, Z) := ⟨_, _, rfl⟩
      have hcs := in_cases k n d y m
      have hN : Mo.nomV k n d y m us uc = if Z = 0 then (V * 86400 + us, 0) else (0, Z) := by
        unfold Mo.nomV
        rw [if_neg (by rw [show Mo.right us uc = true from hrt]; simp), hVZ]
      rw [hVZ] at hI hcs
      obtain ⟨s1, s2, _⟩ := (Mo.right_iff us uc).1 hrt
      have hat : ∃ N K, Mo.nomV k n d y m us uc = (N, Z) ∧ -719162 ≤ V ∧ V ≤ 2932896 ∧ V * 86400 + us = K ∧ ((Z = 0 ∧ K = N) ∨ ((Z == 0) = false ∧ True)) := by
        rcases hcs with ⟨e1, e2, _⟩ | ⟨e1, v1, v2⟩
        · refine ⟨0, _, by rw [hN, if_neg (by simp only at e2; omega)], by simp only at e1; omega, by simp only at e1; omega, rfl, .inr ⟨by rw [beq_eq_false_iff_ne]; simp only at e2; omega, trivial⟩⟩
        · refine ⟨V * 86400 + us, _, by rw [hN, if_pos e1]; simp only at e1; rw [e1], v1, v2, rfl, .inl ⟨e1, rfl⟩⟩
      obtain ⟨N, K, hNom, V1, V2, hK, hZ⟩ := hat
      have HT := Lib.hid htx
      have HP := Lib.hid hPU
      have HI := Lib.hid hI
      have HNom := Lib.hid hNom
      have HKV := Lib.hid hK
      clear htx hPU hI hNom hK hN hVZ hcs hnd hu hrt
      have HK6 := Lib.hid K6
      obtain ⟨-, -, u0, u1, u2, u3, u4, u5, u6, l6, -, -⟩ := K6
      go_wp2_with fail
      refine (HT.out _ HK6.out.env).mono ?_
      rintro e w7 ⟨⟨g, rfl, hg, hF⟩, b7⟩
      have K7 := Lib.hid (HK6.out.on b7)
      have HF := Lib.hid hF
      have HG := Lib.hid (HP.out g)
      clear b7 hF HP HK6 u0 u1 u2 u3 u4 u5 u6 l6
      cases hlack with
      | year e1 e2 =>
        simp only at e1 e2
        obtain ⟨-, -, u0, u1, u2, u3, u4, u5, u6, l7, -, -⟩ := K7.out
        go_wp2_with fail
        refine (HG.out.1 _ K7.out.env HF.out).mono ?_
        rintro e w8 ⟨rfl, b8⟩
        have K8 := Lib.hid (K7.out.on b8)
        have HF8 := Lib.hid (HF.out.below b8)
        clear b8 K7 HF u0 u1 u2 u3 u4 u5 u6 l7
        obtain ⟨-, -, u0, u1, u2, u3, u4, u5, u6, l8, -, -⟩ := K8.out
        go_wp2_with fail
        refine (HG.out.2 _ (K8.out.al _).env (HF8.out.below ((Below.refl _ _).alloc (Nat.le_refl _) _))).mono ?_
        rintro e w9 ⟨rfl, b9⟩
        have K9 := Lib.hid ((K8.out.al _).on b9)
        clear b9 K8 HF8 HG u0 u1 u2 u3 u4 u5 u6 l8
        obtain ⟨-, -, u0, u1, u2, u3, u4, u5, u6, l9, -, -⟩ := K9.out
        go_wp2_with fail
        refine (HI.out _).mono ?_
        rintro e w10 ⟨rfl, b10⟩
        have K10 := Lib.hid ((K9.out.al _).on b10)
        clear b10 K9 u0 u1 u2 u3 u4 u5 u6 l9
        obtain ⟨-, -, u0, u1, u2, u3, u4, u5, u6, l10, -, -⟩ := K10.out
        go_wp2_with fail
        refine (nominal_lit _ _ _ _ _ _ _ N Z _ HNom.out).mono ?_
        rintro e w11 ⟨rfl, b11⟩
        have K11 := Lib.hid (K10.out.on b11)
        clear b11 K10 u0 u1 u2 u3 u4 u5 u6 l10
        obtain ⟨-, -, u0, u1, u2, u3, u4, u5, u6, l11, -, -⟩ := K11.out
        go_wp2_with fail
        refine (at_K V _ K _ V1 V2 s1 s2 HKV.out).mono ?_
        rintro e w12 ⟨rfl, b12⟩
        have K12 := Lib.hid (K11.out.on b12)
        clear b12 K11 u0 u1 u2 u3 u4 u5 u6 l11 HI HNom
        rcases hZ with ⟨rfl, rfl⟩ | ⟨t1, _⟩
        all_goals
          clear HKV
          go_wp2_with fail
          go_meet
          case rel => exact K12.out
      | month e1 e2 =>
        simp only at e1 e2
        obtain ⟨-, -, u0, u1, u2, u3, u4, u5, u6, l7, -, -⟩ := K7.out
        go_wp2_with fail
        refine (HG.out.1 _ K7.out.env HF.out).mono ?_
        rintro e w8 ⟨rfl, b8⟩
        have K8 := Lib.hid (K7.out.on b8)
        have HF8 := Lib.hid (HF.out.below b8)
        clear b8 K7 HF u0 u1 u2 u3 u4 u5 u6 l7
        obtain ⟨-, -, u0, u1, u2, u3, u4, u5, u6, l8, -, -⟩ := K8.out
        go_wp2_with fail
        refine (HG.out.2 _ (K8.out.al _).env (HF8.out.below ((Below.refl _ _).alloc (Nat.le_refl _) _))).mono ?_
        rintro e w9 ⟨rfl, b9⟩
        have K9 := Lib.hid ((K8.out.al _).on b9)
        clear b9 K8 HF8 HG u0 u1 u2 u3 u4 u5 u6 l8
        obtain ⟨-, -, u0, u1, u2, u3, u4, u5, u6, l9, -, -⟩ := K9.out
        go_wp2_with fail
        refine (HI.out _).mono ?_
        rintro e w10 ⟨rfl, b10⟩
        have K10 := Lib.hid ((K9.out.al _).on b10)
        clear b10 K9 u0 u1 u2 u3 u4 u5 u6 l9
        obtain ⟨-, -, u0, u1, u2, u3, u4, u5, u6, l10, -, -⟩ := K10.out
        go_wp2_with fail
        refine (nominal_lit _ _ _ _ _ _ _ N Z _ HNom.out).mono ?_
        rintro e w11 ⟨rfl, b11⟩
        have K11 := Lib.hid (K10.out.on b11)
        clear b11 K10 u0 u1 u2 u3 u4 u5 u6 l10
        obtain ⟨-, -, u0, u1, u2, u3, u4, u5, u6, l11, -, -⟩ := K11.out
        go_wp2_with fail
        refine (at_K V _ K _ V1 V2 s1 s2 HKV.out).mono ?_
        rintro e w12 ⟨rfl, b12⟩
        have K12 := Lib.hid (K11.out.on b12)
        clear b12 K11 u0 u1 u2 u3 u4 u5 u6 l11 HI HNom
        rcases hZ with ⟨rfl, rfl⟩ | ⟨t1, _⟩
        all_goals
          clear HKV
          go_wp2_with fail
          go_meet
          case rel => exact K12.out
      | kind e1 e2 =>
        simp only at e1 e2
        obtain ⟨-, -, u0, u1, u2, u3, u4, u5, u6, l7, -, -⟩ := K7.out
        go_wp2_with fail
        refine (HG.out.1 _ K7.out.env HF.out).mono ?_
        rintro e w8 ⟨rfl, b8⟩
        have K8 := Lib.hid (K7.out.on b8)
        have HF8 := Lib.hid (HF.out.below b8)
        clear b8 K7 HF u0 u1 u2 u3 u4 u5 u6 l7
        obtain ⟨-, -, u0, u1, u2, u3, u4, u5, u6, l8, -, -⟩ := K8.out
        go_wp2_with fail
        refine (HG.out.2 _ (K8.out.al _).env (HF8.out.below ((Below.refl _ _).alloc (Nat.le_refl _) _))).mono ?_
        rintro e w9 ⟨rfl, b9⟩
        have K9 := Lib.hid ((K8.out.al _).on b9)
        clear b9 K8 HF8 HG u0 u1 u2 u3 u4 u5 u6 l8
        obtain ⟨-, -, u0, u1, u2, u3, u4, u5, u6, l9, -, -⟩ := K9.out
        go_wp2_with fail
        refine (HI.out _).mono ?_
        rintro e w10 ⟨rfl, b10⟩
        have K10 := Lib.hid ((K9.out.al _).on b10)
        clear b10 K9 u0 u1 u2 u3 u4 u5 u6 l9
        obtain ⟨-, -, u0, u1, u2, u3, u4, u5, u6, l10, -, -⟩ := K10.out
        go_wp2_with fail
        refine (nominal_lit _ _ _ _ _ _ _ N Z _ HNom.out).mono ?_
        rintro e w11 ⟨rfl, b11⟩
        have K11 := Lib.hid (K10.out.on b11)
        clear b11 K10 u0 u1 u2 u3 u4 u5 u6 l10
        obtain ⟨-, -, u0, u1, u2, u3, u4, u5, u6, l11, -, -⟩ := K11.out
        go_wp2_with fail
        refine (at_K V _ K _ V1 V2 s1 s2 HKV.out).mono ?_
        rintro e w12 ⟨rfl, b12⟩
        have K12 := Lib.hid (K11.out.on b12)
        clear b12 K11 u0 u1 u2 u3 u4 u5 u6 l11 HI HNom
        rcases hZ with ⟨rfl, rfl⟩ | ⟨t1, _⟩
        all_goals
          clear HKV
          go_wp2_with fail
          go_meet
          case rel => exact K12.out
      | num q0 e1 e2 =>
        simp only at q0 e1 e2
        subst q0
        obtain ⟨-, -, u0, u1, u2, u3, u4, u5, u6, l7, -, -⟩ := K7.out
        go_wp2_with fail
        refine (HG.out.1 _ K7.out.env HF.out).mono ?_
        rintro e w8 ⟨rfl, b8⟩
        have K8 := Lib.hid (K7.out.on b8)
        have HF8 := Lib.hid (HF.out.below b8)
        clear b8 K7 HF u0 u1 u2 u3 u4 u5 u6 l7
        obtain ⟨-, -, u0, u1, u2, u3, u4, u5, u6, l8, -, -⟩ := K8.out
        go_wp2_with fail
        refine (HG.out.2 _ (K8.out.al _).env (HF8.out.below ((Below.refl _ _).alloc (Nat.le_refl _) _))).mono ?_
        rintro e w9 ⟨rfl, b9⟩
        have K9 := Lib.hid ((K8.out.al _).on b9)
        clear b9 K8 HF8 HG u0 u1 u2 u3 u4 u5 u6 l8
        obtain ⟨-, -, u0, u1, u2, u3, u4, u5, u6, l9, -, -⟩ := K9.out
        go_wp2_with fail
        refine (HI.out _).mono ?_
        rintro e w10 ⟨rfl, b10⟩
        have K10 := Lib.hid ((K9.out.al _).on b10)
        clear b10 K9 u0 u1 u2 u3 u4 u5 u6 l9
        obtain ⟨-, -, u0, u1, u2, u3, u4, u5, u6, l10, -, -⟩ := K10.out
        go_wp2_with fail
        refine (nominal_lit _ _ _ _ _ _ _ N Z _ HNom.out).mono ?_
        rintro e w11 ⟨rfl, b11⟩
        have K11 := Lib.hid (K10.out.on b11)
        clear b11 K10 u0 u1 u2 u3 u4 u5 u6 l10
        obtain ⟨-, -, u0, u1, u2, u3, u4, u5, u6, l11, -, -⟩ := K11.out
        go_wp2_with fail
        refine (at_K V _ K _ V1 V2 s1 s2 HKV.out).mono ?_
        rintro e w12 ⟨rfl, b12⟩
        have K12 := Lib.hid (K11.out.on b12)
        clear b12 K11 u0 u1 u2 u3 u4 u5 u6 l11 HI HNom
        rcases hZ with ⟨rfl, rfl⟩ | ⟨t1, _⟩
        all_goals
          clear HKV
          go_wp2_with fail
          go_meet
          case rel => exact K12.out
      | dow q0 q1 e1 e2 =>
        simp only at q0 q1 e1 e2
        subst q0
        subst q1
        obtain ⟨-, -, u0, u1, u2, u3, u4, u5, u6, l7, -, -⟩ := K7.out
        go_wp2_with fail
        refine (HG.out.1 _ K7.out.env HF.out).mono ?_
        rintro e w8 ⟨rfl, b8⟩
        have K8 := Lib.hid (K7.out.on b8)
        have HF8 := Lib.hid (HF.out.below b8)
        clear b8 K7 HF u0 u1 u2 u3 u4 u5 u6 l7
        obtain ⟨-, -, u0, u1, u2, u3, u4, u5, u6, l8, -, -⟩ := K8.out
        go_wp2_with fail
        refine (HG.out.2 _ (K8.out.al _).env (HF8.out.below ((Below.refl _ _).alloc (Nat.le_refl _) _))).mono ?_
        rintro e w9 ⟨rfl, b9⟩
        have K9 := Lib.hid ((K8.out.al _).on b9)
        clear b9 K8 HF8 HG u0 u1 u2 u3 u4 u5 u6 l8
        obtain ⟨-, -, u0, u1, u2, u3, u4, u5, u6, l9, -, -⟩ := K9.out
        go_wp2_with fail
        refine (HI.out _).mono ?_
        rintro e w10 ⟨rfl, b10⟩
        have K10 := Lib.hid ((K9.out.al _).on b10)
        clear b10 K9 u0 u1 u2 u3 u4 u5 u6 l9
        obtain ⟨-, -, u0, u1, u2, u3, u4, u5, u6, l10, -, -⟩ := K10.out
        go_wp2_with fail
        refine (nominal_lit _ _ _ _ _ _ _ N Z _ HNom.out).mono ?_
        rintro e w11 ⟨rfl, b11⟩
        have K11 := Lib.hid (K10.out.on b11)
        clear b11 K10 u0 u1 u2 u3 u4 u5 u6 l10
        obtain ⟨-, -, u0, u1, u2, u3, u4, u5, u6, l11, -, -⟩ := K11.out
        go_wp2_with fail
        refine (at_K V _ K _ V1 V2 s1 s2 HKV.out).mono ?_
        rintro e w12 ⟨rfl, b12⟩
        have K12 := Lib.hid (K11.out.on b12)
        clear b12 K11 u0 u1 u2 u3 u4 u5 u6 l11 HI HNom
        rcases hZ with ⟨rfl, rfl⟩ | ⟨t1, _⟩
        all_goals
          clear HKV
          go_wp2_with fail
          go_meet
          case rel => exact K12.out
      | sec e1 e2 =>
        simp only at e1 e2
        obtain ⟨-, -, u0, u1, u2, u3, u4, u5, u6, l7, -, -⟩ := K7.out
        go_wp2_with fail
        refine (HG.out.1 _ K7.out.env HF.out).mono ?_
        rintro e w8 ⟨rfl, b8⟩
        have K8 := Lib.hid (K7.out.on b8)
        have HF8 := Lib.hid (HF.out.below b8)
        clear b8 K7 HF u0 u1 u2 u3 u4 u5 u6 l7
        obtain ⟨-, -, u0, u1, u2, u3, u4, u5, u6, l8, -, -⟩ := K8.out
        go_wp2_with fail
        refine (HG.out.2 _ (K8.out.al _).env (HF8.out.below ((Below.refl _ _).alloc (Nat.le_refl _) _))).mono ?_
        rintro e w9 ⟨rfl, b9⟩
        have K9 := Lib.hid ((K8.out.al _).on b9)
        clear b9 K8 HF8 HG u0 u1 u2 u3 u4 u5 u6 l8
        obtain ⟨-, -, u0, u1, u2, u3, u4, u5, u6, l9, -, -⟩ := K9.out
        go_wp2_with fail
        refine (HI.out _).mono ?_
        rintro e w10 ⟨rfl, b10⟩
        have K10 := Lib.hid ((K9.out.al _).on b10)
        clear b10 K9 u0 u1 u2 u3 u4 u5 u6 l9
        obtain ⟨-, -, u0, u1, u2, u3, u4, u5, u6, l10, -, -⟩ := K10.out
        go_wp2_with fail
        refine (nominal_lit _ _ _ _ _ _ _ N Z _ HNom.out).mono ?_
        rintro e w11 ⟨rfl, b11⟩
        have K11 := Lib.hid (K10.out.on b11)
        clear b11 K10 u0 u1 u2 u3 u4 u5 u6 l10
        obtain ⟨-, -, u0, u1, u2, u3, u4, u5, u6, l11, -, -⟩ := K11.out
        go_wp2_with fail
        refine (at_K V _ K _ V1 V2 s1 s2 HKV.out).mono ?_
        rintro e w12 ⟨rfl, b12⟩
        have K12 := Lib.hid (K11.out.on b12)
        clear b12 K11 u0 u1 u2 u3 u4 u5 u6 l11 HI HNom
        rcases hZ with ⟨rfl, rfl⟩ | ⟨t1, _⟩
        all_goals
          clear HKV
          go_wp2_with fail
          go_meet
          case rel => exact K12.out
      | clk q0 e1 e2 =>
        simp only at q0 e1 e2
        subst q0
        obtain ⟨-, -, u0, u1, u2, u3, u4, u5, u6, l7, -, -⟩ := K7.out
        go_wp2_with fail
        refine (HG.out.1 _ K7.out.env HF.out).mono ?_
        rintro e w8 ⟨rfl, b8⟩
        have K8 := Lib.hid (K7.out.on b8)
        have HF8 := Lib.hid (HF.out.below b8)
        clear b8 K7 HF u0 u1 u2 u3 u4 u5 u6 l7
        obtain ⟨-, -, u0, u1, u2, u3, u4, u5, u6, l8, -, -⟩ := K8.out
        go_wp2_with fail
        refine (HG.out.2 _ (K8.out.al _).env (HF8.out.below ((Below.refl _ _).alloc (Nat.le_refl _) _))).mono ?_
        rintro e w9 ⟨rfl, b9⟩
        have K9 := Lib.hid ((K8.out.al _).on b9)
        clear b9 K8 HF8 HG u0 u1 u2 u3 u4 u5 u6 l8
        obtain ⟨-, -, u0, u1, u2, u3, u4, u5, u6, l9, -, -⟩ := K9.out
        go_wp2_with fail
        refine (HI.out _).mono ?_
        rintro e w10 ⟨rfl, b10⟩
        have K10 := Lib.hid ((K9.out.al _).on b10)
        clear b10 K9 u0 u1 u2 u3 u4 u5 u6 l9
        obtain ⟨-, -, u0, u1, u2, u3, u4, u5, u6, l10, -, -⟩ := K10.out
        go_wp2_with fail
        refine (nominal_lit _ _ _ _ _ _ _ N Z _ HNom.out).mono ?_
        rintro e w11 ⟨rfl, b11⟩
        have K11 := Lib.hid (K10.out.on b11)
        clear b11 K10 u0 u1 u2 u3 u4 u5 u6 l10
        obtain ⟨-, -, u0, u1, u2, u3, u4, u5, u6, l11, -, -⟩ := K11.out
        go_wp2_with fail
        refine (at_K V _ K _ V1 V2 s1 s2 HKV.out).mono ?_
        rintro e w12 ⟨rfl, b12⟩
        have K12 := Lib.hid (K11.out.on b12)
        clear b12 K11 u0 u1 u2 u3 u4 u5 u6 l11 HI HNom
        rcases hZ with ⟨rfl, rfl⟩ | ⟨t1, _⟩
        all_goals
          clear HKV
          go_wp2_with fail
          go_meet
          case rel => exact K12.out
  case rest =>
  have K9 := hcut
  clear hcut K6
  obtain ⟨v, i, z, hp⟩ : ∃ v i z, Mo.prsU L = (v, i, z) := ⟨_, _, _, rfl⟩
  have hok := prsU_ok L
  rw [hp] at hok
  have hU := fun (W : World) (hE : Env W) (hb : Below w.heap.size w W) => uprs_any A q c L HL.out (by omega) (fun _ i hi => by have := HZ.out i hi; omega) W hE w.heap.size hb.size (HS.out.below hb)
  rw [hp] at hU
  have HU := Lib.hid hU
  have HK := Lib.hid K9
  obtain ⟨vy, vm, vk, vn, vd, vs, vc⟩ := v
  clear hp hU K9
  go_step
  go_step
  by_cases hz : z = 0
  · subst hz
    obtain ⟨hi, hu, hc0⟩ := hok.1 rfl
    obtain rfl : i = 0 := hi
    have HUN := Lib.hid hu
    clear hok hu
    go_wp2_with fail
    refine (HU.out _ HK.out.env HK.out.bel).mono ?_
    rintro e w10 ⟨rfl, b10⟩
    have K10 := Lib.hid (HK.out.on b10)
    clear b10 HK
    go_wp2_with fail
    refine (ucheck_yes vy vm vk vn vd vs vc _ HUN.out).mono ?_
    rintro e w11 ⟨rfl, b11⟩
    have K11 := (K10.out.al _).on b11
    go_wp2_with fail
    go_ret
    exact ⟨rfl, K11.bel⟩
  · obtain ⟨hv, hi4, hil⟩ := hok.2 hz
    injection hv with v1 v2 v3 v4 v5 v6 v7
    subst v1 v2 v3 v4 v5 v6 v7
    rw [HL.out] at hil
    have hi4 : i ≤ 4 := hi4
    have hil : i ≤ q := hil
    have t1 : (z != 0) = true := by rw [bne_iff_ne]; exact hz
    have t2 : decide ((i : Int) ≤ 4) = true := by simp; omega
    have t3 : decide (i ≤ q) = true := by simp; omega
    clear hok hz
    go_wp2_with fail
    refine (HU.out _ HK.out.env HK.out.bel).mono ?_
    rintro e w10 ⟨rfl, b10⟩
    have K10 := Lib.hid (HK.out.on b10)
    clear b10 HK
    go_wp2_with fail
    go_ret
    exact ⟨rfl, (K10.out.al _).bel⟩
set_option maxRecDepth 100000 in
theorem back_long (ms mc : Int) (S : ByteArray) (y m k n d us uc : Int) (A : Option Addr) (q c : Nat) (w : World) (HE : Hid (Env w)) (hs : 1000 < S.size) (hs2 : S.size ≤ 9223372036854775807) :
    Calls Tryz.prog 4 #[.agg #[.int .i64 ms, .int .u8 mc], .string S, .agg #[.int .i64 y, .int .i64 m, .int .u8 k, .int .i64 n, .int .i64 d, .int .i64 us, .int .u8 uc], .slice A q c] w fun e w' => e = .returned (.bool true) ∧ Below w.heap.size w w' := by
  go_enter Tryz.func4, Tryz.ntmps4
  go_wp2_with fail
  refine (lives07 _ (Lib.hid ((HE.out.alloc _).alloc _))).mono ?_
  rintro e w1 ⟨rfl, b1⟩
  have a1 : Below w.heap.size w w1 := (((Below.refl _ _).alloc (Nat.le_refl _) _).alloc (by simp) _).trans (b1.mono (by simp; omega))
  go_wp2_with fail
  go_ret
  exact ⟨rfl, a1⟩
set_option maxRecDepth 100000 in
theorem back_many (ms mc : Int) (S : ByteArray) (y m k n d us uc : Int) (A : Option Addr) (q c : Nat) (L : List ByteArray) (hq : q ≤ 9223372036854775807) (HZ : Hid (∀ i, i < q → (L.getD i ByteArray.empty).size ≤ 9223372036854775807)) (HSM : Hid (smB7 q L = false)) (w : World) (HE : Hid (Env w)) (hs : S.size ≤ 1000) (HS : Hid (Sl w w.heap.size A q (fun i => .string (L.getD i ByteArray.empty)))) :
    Calls Tryz.prog 4 #[.agg #[.int .i64 ms, .int .u8 mc], .string S, .agg #[.int .i64 y, .int .i64 m, .int .u8 k, .int .i64 n, .int .i64 d, .int .i64 us, .int .u8 uc], .slice A q c] w fun e w' => e = .returned (.bool true) ∧ Below w.heap.size w w' := by
  go_enter Tryz.func4, Tryz.ntmps4
  go_wp2_with fail
  refine (lives07 _ (Lib.hid ((HE.out.alloc _).alloc _))).mono ?_
  rintro e w1 ⟨rfl, b1⟩
  have a1 : Below w.heap.size w w1 := (((Below.refl _ _).alloc (Nat.le_refl _) _).alloc (by simp) _).trans (b1.mono (by simp; omega))
  clear b1
  go_wp2_with fail
  refine (small7_is A q c L false hq _ HZ.out _ (HS.out.below a1) HSM.out).mono ?_
  rintro e w' ⟨rfl, rfl⟩
  go_wp2_with fail
  go_ret
  exact ⟨rfl, a1⟩
theorem walkMomentBack (ms : Int) (_ : (Lit.int .i64 ms).wf = true) (mc : Int) (hmc : (Lit.int .u8 mc).wf = true) (S : ByteArray) (hs : S.size ≤ maxLen) (y m k n d us uc : Int) (huc : (Lit.int .u8 uc).wf = true) (A : Option Addr) (q c : Nat) (hq : q ≤ maxLen) (L : List ByteArray) (hl : L.length = q) (hz : ∀ i, i < q → (L.getD i ByteArray.empty).size ≤ maxLen) (w : World) (hS : Sl w w.heap.size A q (fun i => .string (L.getD i ByteArray.empty))) (hE : Env w) :
    Calls Tryz.prog 4 #[.agg #[.int .i64 ms, .int .u8 mc], .string S, .agg #[.int .i64 y, .int .i64 m, .int .u8 k, .int .i64 n, .int .i64 d, .int .i64 us, .int .u8 uc], .slice A q c] w fun e w' => e = .returned (.bool true) ∧ Below w.heap.size w w' := by
  unfold maxLen at hs hq hz
  by_cases h1 : S.size ≤ 1000
  · cases h2 : smB7 q L with
    | false => exact back_many ms mc S y m k n d us uc A q c L (by omega) (Lib.hid fun i hi => by have := hz i hi; omega) (Lib.hid h2) w (Lib.hid hE) h1 (Lib.hid hS)
    | true =>
      have h3 := of_decide_eq_true h2
      exact back_in ms mc S y m k n d us uc A q c L (by have := bounds_u8 hmc; omega) (by have := bounds_u8 huc; omega) h1 h3.1 (Lib.hid hl) (Lib.hid h3.2) (Lib.hid h2) w (Lib.hid hE) (Lib.hid hS)
  · exact back_long ms mc S y m k n d us uc A q c w (Lib.hid hE) (by omega) (by omega)
end Go.Proofs.YtgcgmmdfmcapiaaGreatDoor
