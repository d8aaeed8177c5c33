/- Contracts of package source: readRule, readLink. -/
import Derived.Test.YtkcbmnboccjnnaaGreatDoorRr
import Derived.Test.YtkcbmnboccjnnaaGreatDoorEq
namespace Go.Proofs.YtkcbmnboccjnnaaGreatDoor
open Go.RowKit
/-- What reading a line's texts answers, and what is read then. -/
def ReadE (R : SRes) (B g : Nat) (e : Ending) (w : World) : Prop := match R with
  | .inr p => e = .returned (.tuple #[.int .i64 (p.1 : Int), .int .i64 p.2])
  | .inl s => e = .returned (.tuple #[.int .i64 0, .int .i64 0]) ∧ Rdr w B g s
theorem readE_no {R : SRes} {B g : Nat} {w : World} {i : Nat} {z : Int} (h : R = .inr (i, z)) : ReadE R B g (.returned (.tuple #[.int .i64 (i : Int), .int .i64 z])) w := by
  subst h
  rfl
theorem readE_yes {R : SRes} {B g : Nat} {w : World} {s : St} (h : R = .inl s) (hr : Rdr w B g s) : ReadE R B g (.returned (.tuple #[.int .i64 0, .int .i64 0])) w := by
  subst h
  exact ⟨rfl, hr⟩
/-- How the world goes on: what was there stays where nothing is read. -/
def ReadB (R : SRes) (B : Nat) (W w : World) : Prop := match R with
  | .inr _ => Below W.heap.size W w
  | .inl _ => Below B W w
theorem readB_no {R : SRes} {B : Nat} {W w : World} {i : Nat} {z : Int} (h : R = .inr (i, z)) (hb : Below W.heap.size W w) : ReadB R B W w := by
  subst h
  exact hb
theorem readB_yes {R : SRes} {B : Nat} {W w : World} {s : St} (h : R = .inl s) (hb : Below B W w) : ReadB R B W w := by
  subst h
  exact hb
theorem readB_below {R : SRes} {B : Nat} {W w : World} (hB : B ≤ W.heap.size) (h : ReadB R B W w) : Below B W w := by
  cases R with
  | inr _ => exact Below.mono h hB
  | inl _ => exact h
theorem readB_trans {R : SRes} {B : Nat} {W W1 w : World} (hb : Below W.heap.size W W1) (hB : B ≤ W.heap.size) (h : ReadB R B W1 w) : ReadB R B W w := by
  cases R with
  | inr _ => exact hb.trans (Below.mono h hb.size)
  | inl _ => exact (hb.mono hB).trans h
/-- The texts of a row from a place on. -/
theorem sl_from {W : World} {g : Nat} {L : List ByteArray} (h : Bx W g (L.map Value.string)) (k n : Nat) (hn : n ≤ L.length - k) : Sl W W.heap.size (some ⟨g, k, none⟩) n (fun i => .string ((L.drop k).getD i ByteArray.empty)) := fun hp => by
  refine ⟨_, rfl, h.lt, fun i hi => ?_⟩
  have hki : k + i < L.length := by omega
  have e : (⟨g, k, none⟩ : Addr).add i = ⟨g, k + i, none⟩ := Addr.add_lit g k i
  rw [e]
  refine h.at_ (k + i) _ ?_
  show (L.map Value.string)[k + i]? = some (Value.string ((L.drop k).getD i ByteArray.empty))
  rw [List.getElem?_map, List.getElem?_eq_getElem hki, List.getD_eq_getElem?_getD, List.getElem?_drop, List.getElem?_eq_getElem hki]
  rfl
theorem getD_small {L : List ByteArray} {M : Nat} (h : ∀ t ∈ L, t.size ≤ M) (i : Nat) : (L.getD i ByteArray.empty).size ≤ M := by
  rw [List.getD_eq_getElem?_getD]
  cases hg : L[i]? with
  | none => exact Nat.zero_le _
  | some t => exact h t (List.mem_of_getElem? hg)
theorem rparse_at (gt k m : Nat) (L : List ByteArray) (W : World) (hE : Env W) (hL : Bx W gt (L.map Value.string)) (hm : m = L.length - k) (hl : L.length ≤ 24) (hs : ∀ t ∈ L, t.size ≤ 2048) :
    Calls Tryz.prog 92 #[.slice (some ⟨gt, k, none⟩) m m] W fun e w' => RPrsE (Rl.prs (L.drop k)) e ∧ Below W.heap.size W w' := by
  subst hm
  exact rprs_any _ _ _ _ (L.drop k) List.length_drop (by omega) rfl (fun i _ => Nat.le_trans (getD_small (fun t ht => hs t (List.mem_of_mem_drop ht)) i) (by decide)) W hE W.heap.size (Nat.le_refl _) (sl_from hL k _ (Nat.le_refl _))
theorem eparse_at (gt k m : Nat) (L : List ByteArray) (W : World) (hE : Ev W) (hL : Bx W gt (L.map Value.string)) (hm : m = L.length - k) (hl : L.length ≤ 24) (hs : ∀ t ∈ L, t.size ≤ 2048) :
    Calls Tryz.prog 90 #[.slice (some ⟨gt, k, none⟩) m m] W fun e w' => EPrsE (El.prs (L.drop k)) e ∧ Below W.heap.size W w' := by
  subst hm
  exact eprs_any _ _ _ _ (L.drop k) List.length_drop (by omega) (Nat.le_refl _) (by omega) rfl (fun i _ _ => Nat.le_trans (getD_small (fun t ht => hs t (List.mem_of_mem_drop ht)) i) (by decide)) W hE W.heap.size (Nat.le_refl _) (sl_from hL k _ (Nat.le_refl _))
theorem rparse_none (A : Option Addr) (W : World) (hE : Env W) : Calls Tryz.prog 92 #[.slice A 0 0] W fun e w' => RPrsE (Rl.prs []) e ∧ Below W.heap.size W w' :=
  rprs_any A 0 0 0 [] rfl (by omega) rfl (fun _ h => absurd h (by omega)) W hE W.heap.size (Nat.le_refl _) (fun h => absurd h (by omega))
theorem eparse_none (A : Option Addr) (W : World) (hE : Ev W) : Calls Tryz.prog 90 #[.slice A 0 0] W fun e w' => EPrsE (El.prs []) e ∧ Below W.heap.size W w' :=
  eprs_any A 0 0 0 [] rfl (by omega) (by omega) (by omega) rfl (fun _ h => absurd h (by omega)) W hE W.heap.size (Nat.le_refl _) (fun h => absurd h (by omega))
set_option maxRecDepth 100000 in
set_option maxHeartbeats 4000000 in
theorem readRule_any (g B gt n : Nat) (s : St) (L : List ByteArray) (W : World) (hE : Env W) (hR : Rdr W B g s) (hL : Bx W gt (L.map Value.string)) (hl : L.length = n) (h1 : 1 ≤ n) (hn : n ≤ 24) (hs : ∀ t ∈ L, t.size ≤ 2048) (h96 : s.rs.length ≤ 4096) :
    Calls Tryz.prog 49 #[.pointer (some ⟨g, 0, none⟩), .slice (some ⟨gt, 0, none⟩) n n] W fun e w' => ReadE (So.rule s L) B g e w' ∧ ReadB (So.rule s L) B W w' := by
  obtain ⟨lim, vr, vz, vl, zd, cz, R⟩ := hR
  obtain ⟨Ar, cr, hvr⟩ := own_form2 R.r
  subst hvr
  have hBW : B ≤ W.heap.size := Nat.le_trans R.limB R.limW
  have c0 := cell_blk R.blk 0
  change W.cell? ⟨g, 0, none⟩ = some (.slice Ar s.rs.length cr) at c0
  by_cases hfull : s.rs.length = 4096
  · have HR := Lib.hid (show So.rule s L = .inr (0, 6) by unfold So.rule; rw [if_pos hfull])
    rw [hfull] at c0
    clear R hE hL
    go_enter Tryz.func49, Tryz.ntmps49
    go_wp2_with fail
    go_ret2
    exact ⟨readE_no HR.out, readB_no HR.out (Below.refl _ _)⟩
  · obtain ⟨r, i, z, hp⟩ : ∃ r i z, Rl.prs (L.drop 1) = (r, i, z) := ⟨_, _, _, rfl⟩
    have hrule : So.rule s L = if z ≠ 0 then .inr (1 + i, z) else .inl { s with rs := s.rs ++ [r] } := by
      unfold So.rule
      rw [if_neg hfull, hp]
    have HRU := Lib.hid hrule
    have HRR := Lib.hid R
    have hi9 : i ≤ 9 := by
      have := rprs_ok (L.drop 1)
      rw [hp] at this
      by_cases h0 : z = 0
      · have := (this.1 h0).1
        simp only at this
        omega
      · exact (this.2 h0).2.1
    by_cases hn1 : n = 1
    · subst hn1
      have hd : L.drop 1 = [] := List.drop_of_length_le (by omega)
      rw [hd] at hp
      have hz : z = 5 ∧ i = 0 := by
        have h0 : Rl.prs [] = (Ru.zero, 0, 5) := rfl
        rw [h0] at hp
        injection hp with _ hp
        injection hp with e1 e2
        exact ⟨e2.symm, e1.symm⟩
      obtain ⟨rfl, rfl⟩ := hz
      have HC := Lib.hid (fun A => rparse_none A W hE)
      rw [hp] at HC
      clear R hE hL hrule hd hp
      go_enter Tryz.func49, Tryz.ntmps49
      go_wp2_with fail
      refine (HC.out _).mono ?_
      rintro e w1 ⟨rfl, b1⟩
      go_wp2_with fail
      go_ret2
      exact ⟨readE_no (i := 1) (by rw [HRU.out]; rfl), readB_no (i := 1) (by rw [HRU.out]; rfl) (b1.alloc b1.size _)⟩
    · have HC := Lib.hid (rparse_at gt 1 (n - 1) L W hE hL (by omega) (by omega) hs)
      rw [hp] at HC
      clear R hE hL hrule hp
      by_cases hz : z = 0
      · subst hz
        go_enter Tryz.func49, Tryz.ntmps49
        go_wp2_with fail
        refine HC.out.mono ?_
        rintro e w1 ⟨rfl, b1⟩
        have R1 := HRR.out.on b1
        have hz1 := b1.size
        have d0 := cell_blk R1.blk 0
        change w1.cell? ⟨g, 0, none⟩ = some (.slice Ar s.rs.length cr) at d0
        have q0 := frozen_blk R1.blk 0
        have hg1 := lt_blk R1.blk
        have ag := own_not_blk R1.r R1.blk (by decide)
        have ab : (Value.slice Ar s.rs.length cr).ownBlock ≠ some w1.heap.size := fun e => by have := (R1.r.lt _ e).2; omega
        have HR2 := Lib.hid (R1.on (((box_below w1 (.cells #[.string r.nm, .int .i64 r.fr, .int .i64 r.tl, .int .i64 r.m, .int .u8 r.k, .int .i64 r.n, .int .i64 r.d, .int .i64 r.s, .int .u8 r.c, .int .i64 r.sv, .string r.lt] 48)).alloc (by simp) (.cells #[.string r.nm, .int .i64 r.fr, .int .i64 r.tl, .int .i64 r.m, .int .u8 r.k, .int .i64 r.n, .int .i64 r.d, .int .i64 r.s, .int .u8 r.c, .int .i64 r.sv, .string r.lt] 48)).drew))
        have HBe := Lib.hid ((((((Below.refl B W).trans (b1.mono hBW)).alloc (Nat.le_trans hBW hz1) (.cells #[.string r.nm, .int .i64 r.fr, .int .i64 r.tl, .int .i64 r.m, .int .u8 r.k, .int .i64 r.n, .int .i64 r.d, .int .i64 r.s, .int .u8 r.c, .int .i64 r.sv, .string r.lt] 48)).alloc (by simp; omega) (.cells #[.string r.nm, .int .i64 r.fr, .int .i64 r.tl, .int .i64 r.m, .int .u8 r.k, .int .i64 r.n, .int .i64 r.d, .int .i64 r.s, .int .u8 r.c, .int .i64 r.sv, .string r.lt] 48)).drew))
        have Bb := Bx.mk' w1 w1.heap.size #[.string r.nm, .int .i64 r.fr, .int .i64 r.tl, .int .i64 r.m, .int .u8 r.k, .int .i64 r.n, .int .i64 r.d, .int .i64 r.s, .int .u8 r.c, .int .i64 r.sv, .string r.lt] 48 rfl
        have HN := Lib.hid (Bx.mk' (w1.alloc (.cells #[.string r.nm, .int .i64 r.fr, .int .i64 r.tl, .int .i64 r.m, .int .u8 r.k, .int .i64 r.n, .int .i64 r.d, .int .i64 r.s, .int .u8 r.c, .int .i64 r.sv, .string r.lt] 48)) (w1.heap.size + 1) #[.string r.nm, .int .i64 r.fr, .int .i64 r.tl, .int .i64 r.m, .int .u8 r.k, .int .i64 r.n, .int .i64 r.d, .int .i64 r.s, .int .u8 r.c, .int .i64 r.sv, .string r.lt] 48 (by simp))
        clear R1 b1 c0 Bb
        go_wp2_with fail
        go_region_law
          ((refine step_ap_rule (by rfl) _ _ (by rfl) B (.slice Ar s.rs.length cr) s.rs.length (s.rs.flatMap rcell) (by rfl) HR2.out.r (w1.heap.size + 1) 1 (rcell r) (by rfl) (by rfl) HN.out.at_ (by intro u hu; simp [rcell] at hu; rcases hu with rfl | rfl | rfl | rfl | rfl | rfl | rfl | rfl | rfl | rfl | rfl <;> rfl) (by omega) (by simp; omega) ?_; intro gg cap w3 hown3 hgrow hat hlt; have hbk := set_grown hgrow HR2.out.blk ag; have e0 := cell_blk hbk 0; have e1 := frozen_blk hbk 0))
        all_goals
          have HF := Lib.hid (HR2.out.rule hgrow hown3)
          have hb3 : Below B W (w3.setCell ⟨g, 0, none⟩ (.slice (some ⟨gg, 0, none⟩) (s.rs.length + 1) cap)) := (HBe.out.grown hgrow (by simp; omega) (fun k hk => (HR2.out.r.lt k hk).1)).setCell HR2.out.base _
          clear hgrow hown3 HR2 HBe hbk HN
          go_wp2_with fail
          go_ret2
          exact ⟨readE_yes HRU.out ⟨_, _, _, _, _, _, HF.out⟩, readB_yes HRU.out hb3⟩
      · have tz : (z != 0) = true := by rw [bne_iff_ne]; exact hz
        have hzz : So.rule s L = .inr (1 + i, z) := by rw [HRU.out, if_pos hz]
        have HRU := Lib.hid hzz
        clear hzz hz
        go_enter Tryz.func49, Tryz.ntmps49
        go_wp2_with fail
        refine HC.out.mono ?_
        rintro e w1 ⟨rfl, b1⟩
        go_wp2_with fail
        go_ret2
        exact ⟨readE_no (i := 1 + i) (by rw [HRU.out]), readB_no (i := 1 + i) (by rw [HRU.out]) (b1.alloc b1.size _)⟩
end Go.Proofs.YtkcbmnboccjnnaaGreatDoor
