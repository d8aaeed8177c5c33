/- Contract of package source: readLink. -/
import Derived.Test.YtkcbmnboccjnnaaGreatDoorRdA
namespace Go.Proofs.YtkcbmnboccjnnaaGreatDoor
open Go.RowKit Go.Shelf
theorem enters_name : ∀ args w, (callFunc 94 args).run Tryz.prog w = .ok (.enter 94 args) w := enters_of Tryz.func94 (by kernel_rfl) rfl
theorem noName_any (t : ByteArray) (w : World) (hs : t.size ≤ 9223372036854775807) : Calls Tryz.prog 94 #[.string t] w fun e w' => e = .returned (.bool (!So.isN t)) ∧ Below w.heap.size w w' := by
  have H := Lib.hid (fun W => rname_is t (So.isN t) W hs rfl)
  generalize So.isN t = v at *
  go_enter Tryz.func94, Tryz.ntmps94
  go_wp2_with fail
  refine (H.out _).mono ?_
  rintro e w' ⟨rfl, rfl⟩
  go_wp2_with fail
  go_ret
  exact ⟨rfl, Below.refl _ _⟩
set_option maxRecDepth 100000 in
set_option maxHeartbeats 1000000 in
theorem idx_text (g : Nat) (eg : ∀ args w, (callFunc g args).run Tryz.prog w = .ok (.enter g args) w) (p : ByteArray → Bool) (A : Option Addr) (n c : Nat) (l : List ByteArray) (w : World) (hl : l.length = n) (hn : n ≤ 9223372036854775807) (hR : Sl w w.heap.size A n (fun i => .string (l.getD i ByteArray.empty)))
    (hp : ∀ x ∈ l, ∀ W, Below w.heap.size w W → Calls Tryz.prog g #[.string x] W fun e w' => e = .returned (.bool (p x)) ∧ Below W.heap.size W w') :
    Calls Tryz.prog 93 #[.slice A n c, .func (.func g) #[] #[]] w fun e w' => e = .returned (.int .i64 (fidx p l)) ∧ Below w.heap.size w w' := by
  have HR := Lib.hid hR
  have HP := Lib.hid hp
  have HL := Lib.hid hl
  clear hR hp hl
  go_enter Tryz.func93, Tryz.ntmps93
  go_wp2_with fail
  go_loopw [5, 8] (fun _ i wr => ∃ k : Nat, k ≤ n ∧ i = .int .i64 k ∧ Below w.heap.size w wr ∧ Hid (∀ j y, j < k → l[j]? = some y → p y = false)) (fun _ i _ => n - (intOf i).toNat)
  case atStart => exact ⟨0, Nat.zero_le _, rfl, Below.refl _ _, Lib.hid (fun j y h => absurd h (by omega))⟩
  case round =>
    obtain ⟨k, hk, rfl, hbw, hj⟩ := hrel
    by_cases hlt : k < n
    · obtain ⟨x, hx⟩ : ∃ x, l[k]? = some x := ⟨_, List.getElem?_eq_getElem (by rw [HL.out]; exact hlt)⟩
      obtain ⟨ad, rfl, hb, hc⟩ := (HR.out.below hbw).at_ hlt
      have c0 : wr.cell? (ad.add k) = some (Value.string x) := by
        rw [hc, List.getD_eq_getElem?_getD, hx]
        rfl
      have HQ := Lib.hid (HP.out x (List.mem_of_getElem? hx) wr hbw)
      have HX := Lib.hid hx
      clear hc hx
      cases hpx : p x with
      | true =>
        rw [hpx] at HQ
        have HPX := Lib.hid hpx
        clear hpx
        go_wp2_with (go_at_fn g; refine HQ.out.mono ?_; rintro e w1 ⟨rfl, b1⟩)
        go_ret
        exact ⟨ret_int (fidx_hit l k x HX.out HPX.out hj.out).symm, hbw.trans (b1.mono hbw.size)⟩
      | false =>
        rw [hpx] at HQ
        have HPX := Lib.hid hpx
        clear hpx
        go_wp2_with (go_at_fn g; refine HQ.out.mono ?_; rintro e w1 ⟨rfl, b1⟩)
        go_roundw
        case rel =>
          refine ⟨k + 1, by omega, by go_num, hbw.trans (b1.mono hbw.size), Lib.hid (fun j y hj2 hy => ?_)⟩
          rcases Nat.lt_or_ge j k with h | h
          · exact hj.out j y h hy
          · obtain rfl : j = k := by omega
            have := HX.out
            rw [this] at hy
            injection hy with hy
            subst hy
            exact HPX.out
        case measure => simp [intOf]; omega
    · obtain rfl : k = n := by omega
      go_wp2_with fail
      go_ret
      exact ⟨ret_int (fidx_miss l (fun j y hj2 hy => hj.out j y (by have := HL.out; omega) hy)).symm, hbw⟩
/-- What a link's line tells, by the first text that is no name. -/
theorem linkL_by (s : St) (L : List ByteArray) (h1 : 1 ≤ L.length) (hf : ¬ s.ls.length = 4096) (v : Int) (hv : fidx (fun t => !So.isN t) ((L.take 3).drop 1) = v) :
    So.linkL s L = if 0 ≤ v then .inr (1 + v.toNat, 7) else if L.length < 3 then .inr (L.length, 5) else if 3 < L.length then .inr (3, 6) else .inl { s with ls := s.ls ++ [⟨So.at_ L 1, So.at_ L 2⟩] } := by
  unfold So.linkL
  rw [if_neg hf]
  match L, h1 with
  | [a], _ =>
    subst hv
    rw [if_neg (by simp), if_neg (by simp)]
    rfl
  | [a, b], _ =>
    have e1 : So.at_ [a, b] 1 = b := rfl
    have hv : (if (!So.isN b) = true then (0 : Int) else if (-1 : Int) = -1 then -1 else -1 + 1) = v := hv
    rw [e1]
    cases hb : So.isN b with
    | true =>
      rw [hb] at hv
      subst hv
      rfl
    | false =>
      rw [hb] at hv
      subst hv
      rfl
  | a :: b :: c :: r, _ =>
    have e1 : So.at_ (a :: b :: c :: r) 1 = b := rfl
    have e2 : So.at_ (a :: b :: c :: r) 2 = c := rfl
    have hv : (if (!So.isN b) = true then (0 : Int) else if (if (!So.isN c) = true then (0 : Int) else if (-1 : Int) = -1 then -1 else -1 + 1) = -1 then -1 else (if (!So.isN c) = true then (0 : Int) else if (-1 : Int) = -1 then -1 else -1 + 1) + 1) = v := hv
    rw [e1, e2]
    have hl : (a :: b :: c :: r).length = r.length + 3 := rfl
    rw [hl]
    cases hb : So.isN b with
    | true =>
      rw [hb] at hv
      cases hc : So.isN c with
      | true =>
        rw [hc] at hv
        subst hv
        rw [if_neg (by simp), if_neg (by simp)]
        rfl
      | false =>
        rw [hc] at hv
        subst hv
        rw [if_neg (by simp), if_pos ⟨by omega, rfl⟩]
        rfl
    | false =>
      rw [hb] at hv
      subst hv
      rw [if_pos ⟨by omega, rfl⟩]
      rfl
set_option maxRecDepth 100000 in
set_option maxHeartbeats 4000000 in
theorem readLink_any (g B gt n : Nat) (s : St) (L : List ByteArray) (W : World) (hR : Rdr W B g s) (hL : Bx W gt (L.map Value.string)) (hl : L.length = n) (h1 : 1 ≤ n) (hn : n ≤ 24) (hs : ∀ t ∈ L, t.size ≤ 2048) (h96 : s.ls.length ≤ 4096) :
    Calls Tryz.prog 51 #[.pointer (some ⟨g, 0, none⟩), .slice (some ⟨gt, 0, none⟩) n n] W fun e w' => ReadE (So.linkL s L) B g e w' ∧ ReadB (So.linkL s L) B W w' := by
  obtain ⟨lim, vr, vz, vl, zd, cz, R⟩ := hR
  obtain ⟨Al, cl, hvl⟩ := own_form2 R.l
  subst hvl
  have hBW : B ≤ W.heap.size := Nat.le_trans R.limB R.limW
  have c0 := cell_blk R.blk 2
  change W.cell? ⟨g, 2, none⟩ = some (.slice Al s.ls.length cl) at c0
  by_cases hfull : s.ls.length = 4096
  · have HR := Lib.hid (show So.linkL s L = .inr (0, 6) by unfold So.linkL; rw [if_pos hfull])
    rw [hfull] at c0
    clear R hL
    go_enter Tryz.func51, Tryz.ntmps51
    go_wp2_with fail
    go_ret2
    exact ⟨readE_no HR.out, readB_no HR.out (Below.refl _ _)⟩
  · obtain ⟨v, hv⟩ : ∃ v, fidx (fun t => !So.isN t) ((L.take 3).drop 1) = v := ⟨_, rfl⟩
    have HLK := Lib.hid (linkL_by s L (by omega) hfull v hv)
    rw [hl] at HLK
    have hge := fidx_ge (fun t => !So.isN t) ((L.take 3).drop 1)
    rw [hv, List.length_drop, List.length_take, hl] at hge
    obtain ⟨M, hM⟩ : ∃ M, M = min n 3 := ⟨_, rfl⟩
    have tm : min (n : Int) 3 = (M : Int) := by omega
    have hM1 : 1 ≤ M := by omega
    have hMn : M ≤ n := by omega
    have hvM : v < M := by omega
    have hlen : ((L.take 3).drop 1).length = M - 1 := by rw [List.length_drop, List.length_take, hl, hM, Nat.min_comm]
    have HRR := Lib.hid R
    have HBL := Lib.hid hL
    have HC : Hid (∀ c, Calls Tryz.prog 93 #[.slice (if n = 1 then some ⟨gt, 0, none⟩ else some ⟨gt, 1, none⟩) (M - 1) c, .func (.func 94) #[] #[]] W fun e w' => e = .returned (.int .i64 v) ∧ Below W.heap.size W w') := Lib.hid (fun c => by
      rw [← hv]
      refine idx_text _ enters_name _ _ (M - 1) c _ W hlen (by omega) ?_ (fun x hx W' _ => noName_any x W' (by
        have := hs x (List.mem_of_mem_take (List.mem_of_mem_drop hx))
        omega))
      intro hp
      rw [if_neg (by omega)]
      obtain ⟨ad, e, hb, hc⟩ := sl_from hL 1 (M - 1) (by omega) hp
      refine ⟨ad, e, hb, fun i hi => ?_⟩
      rw [hc i hi]
      have e2 : ((L.take 3).drop 1).getD i ByteArray.empty = (L.drop 1).getD i ByteArray.empty := by
        rw [List.getD_eq_getElem?_getD, List.getD_eq_getElem?_getD, List.getElem?_drop, List.getElem?_drop, List.getElem?_take_of_lt (by omega)]
      show _ = some (Value.string (((L.take 3).drop 1).getD i ByteArray.empty))
      rw [e2])
    have HL2 := Lib.hid hl
    clear R hL hv hlen hM hl
    have hgen : ∀ (e : Ending) (w' : World), True := fun _ _ => trivial
    clear hgen
    by_cases hn1 : n = 1
    · subst hn1
      obtain rfl : M = 1 := by omega
      obtain rfl : v = -1 := by omega
      rw [if_pos rfl] at HC
      rw [if_neg (by decide), if_pos (by decide)] at HLK
      go_enter Tryz.func51, Tryz.ntmps51
      go_wp2_with fail
      refine (HC.out _).mono ?_
      rintro e w1 ⟨rfl, b1⟩
      go_wp2_with fail
      go_ret2
      exact ⟨readE_no (i := 1) HLK.out, readB_no (i := 1) HLK.out b1⟩
    · rw [if_neg hn1] at HC
      by_cases hv0 : 0 ≤ v
      · rw [if_pos hv0] at HLK
        obtain ⟨k, rfl⟩ : ∃ k : Nat, v = k := ⟨v.toNat, by omega⟩
        go_enter Tryz.func51, Tryz.ntmps51
        go_wp2_with fail
        refine (HC.out _).mono ?_
        rintro e w1 ⟨rfl, b1⟩
        go_wp2_with fail
        go_ret2
        exact ⟨readE_no (i := 1 + k) (by rw [HLK.out]; rfl), readB_no (i := 1 + k) (by rw [HLK.out]; rfl) b1⟩
      · obtain rfl : v = -1 := by omega
        rw [if_neg hv0] at HLK
        by_cases h3 : n < 3
        · rw [if_pos h3] at HLK
          go_enter Tryz.func51, Tryz.ntmps51
          go_wp2_with fail
          refine (HC.out _).mono ?_
          rintro e w1 ⟨rfl, b1⟩
          go_wp2_with fail
          go_ret2
          exact ⟨readE_no (i := n) HLK.out, readB_no (i := n) HLK.out b1⟩
        · rw [if_neg h3] at HLK
          by_cases h4 : 3 < n
          · rw [if_pos h4] at HLK
            go_enter Tryz.func51, Tryz.ntmps51
            go_wp2_with fail
            refine (HC.out _).mono ?_
            rintro e w1 ⟨rfl, b1⟩
            go_wp2_with fail
            go_ret2
            exact ⟨readE_no (i := 3) HLK.out, readB_no (i := 3) HLK.out b1⟩
          · rw [if_neg h4] at HLK
            obtain rfl : n = 3 := by omega
            obtain rfl : M = 3 := by omega
            obtain ⟨t0, t1, t2, rfl⟩ : ∃ t0 t1 t2, L = [t0, t1, t2] := by
              have := HL2.out
              match L, this with
              | [a, b, c], _ => exact ⟨a, b, c, rfl⟩
            clear hs
            go_enter Tryz.func51, Tryz.ntmps51
            go_wp2_with fail
            refine (HC.out _).mono ?_
            rintro e w1 ⟨rfl, b1⟩
            have R1 := HRR.out.on b1
            have B1 := HBL.out.on b1
            have hz1 := b1.size
            have d0 := cell_blk R1.blk 2
            change w1.cell? ⟨g, 2, none⟩ = some (.slice Al s.ls.length cl) at d0
            have d1 : w1.cell? ⟨gt, 1, none⟩ = some (.string t1) := B1.at_ 1 _ rfl
            have d2 : w1.cell? ⟨gt, 2, none⟩ = some (.string t2) := B1.at_ 2 _ rfl
            have hg1 := lt_blk R1.blk
            have hgt1 := B1.lt
            have ag := own_not_blk R1.l R1.blk (by decide)
            have HR2 := Lib.hid (R1.on ((box_below w1 (.cells #[.string t1, .string t2] 57)).drew))
            have HBe := Lib.hid (((((Below.refl B W).trans (b1.mono hBW)).alloc (Nat.le_trans hBW hz1) (.cells #[.string t1, .string t2] 57)).drew))
            have HN := Lib.hid (Bx.mk' w1 w1.heap.size #[.string t1, .string t2] 57 rfl)
            clear R1 b1 B1 c0 HC
            go_wp2_with fail
            go_region_law
              ((refine step_ap_link (by rfl) _ _ (by rfl) B (.slice Al s.ls.length cl) s.ls.length (s.ls.flatMap lcell) (by rfl) HR2.out.l w1.heap.size 1 (lcell ⟨t1, t2⟩) (by rfl) (by rfl) HN.out.at_ (by intro u hu; simp [lcell] at hu; rcases hu with rfl | rfl <;> rfl) (by omega) (by simp; omega) ?_; intro gg cap w3 hown3 hgrow hat hlt; have hbk := set_grown hgrow HR2.out.blk ag; have e0 := cell_blk hbk 2; have e1 := frozen_blk hbk 2))
            all_goals
              have HF := Lib.hid (HR2.out.link hgrow hown3)
              have hb3 : Below B W (w3.setCell ⟨g, 2, none⟩ (.slice (some ⟨gg, 0, none⟩) (s.ls.length + 1) cap)) := (HBe.out.grown hgrow (by simp; omega) (fun k hk => (HR2.out.l.lt k hk).1)).setCell HR2.out.base _
              clear hgrow hown3 HR2 HBe hbk HN
              go_wp2_with fail
              go_ret2
              exact ⟨readE_yes HLK.out ⟨_, _, _, _, _, _, HF.out⟩, readB_yes HLK.out hb3⟩
end Go.Proofs.YtkcbmnboccjnnaaGreatDoor
