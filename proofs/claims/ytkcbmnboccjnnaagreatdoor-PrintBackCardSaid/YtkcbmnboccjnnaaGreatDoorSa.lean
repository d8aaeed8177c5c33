/- Contracts of slices.EqualFunc over zones; package source: Same. -/
import Derived.Test.YtkcbmnboccjnnaaGreatDoorEq
namespace Go.Proofs.YtkcbmnboccjnnaaGreatDoor
open Go.RowKit Go.Shelf
def zoneB (x y : Zn) : Bool := decide (x.nm.toList = y.nm.toList) && alike eraB x.es y.es
theorem zoneB_iff (x y : Zn) : zoneB x y = true ↔ x = y := by
  obtain ⟨a, b⟩ := x
  obtain ⟨c, d⟩ := y
  unfold zoneB
  rw [Bool.and_eq_true, decide_eq_true_eq, alike_iff eraB_iff]
  constructor
  · rintro ⟨h1, h2⟩
    have h1 := ba_of_toList h1
    simp only at h1 h2
    subst h1 h2
    rfl
  · intro h
    injection h with h1 h2
    subst h1 h2
    exact ⟨rfl, rfl⟩
theorem alike_map {α β : Type} (f : α → β) (t : β → β → Bool) : ∀ a b : List α, alike (fun x y => t (f x) (f y)) a b = alike t (a.map f) (b.map f)
  | [], [] => rfl
  | [], y :: b => rfl
  | x :: a, [] => rfl
  | x :: a, y :: b => by
    rw [alike, List.map_cons, List.map_cons, alike, alike_map f t a b]
theorem enters_same : ∀ args w, (callFunc 30 args).run Tryz.prog w = .ok (.enter 30 args) w := enters_of Tryz.func30 (by kernel_rfl) rfl
set_option maxHeartbeats 1000000 in
theorem sameZone_any (x y : Zd) (w : World) (h1 : x.es.length ≤ 9223372036854775807) (h2 : y.es.length ≤ 9223372036854775807) (hR : Rk w w.heap.size x.A (x.es.flatMap ecell)) (hR' : Rk w w.heap.size y.A (y.es.flatMap ecell)) :
    Calls Tryz.prog 30 #[.agg #[.string x.nm, .slice x.A x.es.length x.c], .agg #[.string y.nm, .slice y.A y.es.length y.c]] w fun e w' => e = .returned (.bool (zoneB x.zn y.zn)) ∧ Below w.heap.size w w' := by
  have hb := (box_below w (.cells #[.string x.nm, .slice x.A x.es.length x.c] 52)).alloc (by simp) (.cells #[.string y.nm, .slice y.A y.es.length y.c] 52)
  have H := Lib.hid (equal_era x.A y.A x.es.length y.es.length x.c y.c x.es y.es _ rfl rfl h1 h2 (hR.on hb) (hR'.on hb) _ rfl)
  have HB := Lib.hid hb
  have e0 : zoneB x.zn y.zn = (decide (x.nm.toList = y.nm.toList) && alike eraB x.es y.es) := rfl
  rw [e0]
  clear e0 hb hR hR'
  by_cases hn : x.nm.toList = y.nm.toList
  · have t1 : (x.nm.toList == y.nm.toList) = true := by simpa using hn
    rw [decide_eq_true hn, Bool.true_and]
    generalize alike eraB x.es y.es = v at *
    go_enter Tryz.func30, Tryz.ntmps30
    go_wp2_with fail
    refine H.out.mono ?_
    rintro e w1 ⟨rfl, b1⟩
    have a1 := HB.out.trans (b1.mono (by simp; omega))
    clear b1 H HB
    go_wp2_with fail
    go_ret
    exact ⟨rfl, a1⟩
  · have t1 : (x.nm.toList == y.nm.toList) = false := by simpa using hn
    rw [decide_eq_false hn, Bool.false_and]
    clear H
    go_enter Tryz.func30, Tryz.ntmps30
    go_wp2_with fail
    go_ret
    exact ⟨rfl, HB.out⟩
set_option maxRecDepth 100000 in
set_option maxHeartbeats 2000000 in
theorem equal_zones (g : Nat) (eg : ∀ args w, (callFunc g args).run Tryz.prog w = .ok (.enter g args) w) (A A' : Option Addr) (n n' c c' : Nat) (l l' : List Zd) (w : World) (hl : l.length = n) (hl' : l'.length = n') (hn : n ≤ 9223372036854775807) (hn' : n' ≤ 9223372036854775807) (hR : Rk w w.heap.size A (l.flatMap zcell)) (hR' : Rk w w.heap.size A' (l'.flatMap zcell))
    (hp : ∀ x ∈ l, ∀ y ∈ l', ∀ W, Below w.heap.size w W → Calls Tryz.prog g #[.agg #[.string x.nm, .slice x.A x.es.length x.c], .agg #[.string y.nm, .slice y.A y.es.length y.c]] W fun e w' => e = .returned (.bool (zoneB x.zn y.zn)) ∧ Below W.heap.size W w') (v : Bool) (hv : alike zoneB (l.map Zd.zn) (l'.map Zd.zn) = v) :
    Calls Tryz.prog 33 #[.slice A n c, .slice A' n' c', .func (.func g) #[] #[]] w fun e w' => e = .returned (.bool v) ∧ Below w.heap.size w w' := by
  subst hv
  rw [← alike_map Zd.zn zoneB]
  by_cases hne : n = n'
  · subst hne
    have HR := Lib.hid hR
    have HR' := Lib.hid hR'
    have HL := Lib.hid hl
    have HL' := Lib.hid hl'
    have HP := Lib.hid hp
    clear hR hR' hl hl' hn' hp
    go_enter Tryz.func33, Tryz.ntmps33
    go_wp2_with fail
    go_loopw [17] (fun i wr => ∃ k : Nat, k ≤ n ∧ i = .int .i64 k ∧ Below w.heap.size w wr ∧ Hid (∀ j x y, j < k → l[j]? = some x → l'[j]? = some y → zoneB x.zn y.zn = true)) (fun i _ => n - (intOf i).toNat)
    case atStart => exact ⟨0, Nat.zero_le _, rfl, Below.refl _ _, Lib.hid (fun j x y h => absurd h (by omega))⟩
    case round =>
      obtain ⟨k, hk, rfl, hbw, hj⟩ := hrel
      by_cases hlt : k < n
      · obtain ⟨x, hx⟩ : ∃ x, l[k]? = some x := ⟨_, List.getElem?_eq_getElem (by rw [HL.out]; exact hlt)⟩
        obtain ⟨y, hy⟩ : ∃ y, l'[k]? = some y := ⟨_, List.getElem?_eq_getElem (by rw [HL'.out]; exact hlt)⟩
        obtain ⟨b, o, rfl, hb, hc⟩ := (HR.out.below hbw).at_ zcell_len (by decide) hx
        obtain ⟨b', o', rfl, hb', hc'⟩ := (HR'.out.below hbw).at_ zcell_len (by decide) hy
        have hbr : b < wr.heap.size := Nat.lt_of_lt_of_le hb hbw.size
        have hbr' : b' < wr.heap.size := Nat.lt_of_lt_of_le hb' hbw.size
        have HX := Lib.hid hx
        have HY := Lib.hid hy
        have c0 : wr.cell? ⟨b, o + k * 2, none⟩ = some (Value.string x.nm) := hc 0 _ rfl
        have c1 : wr.cell? ⟨b, o + k * 2 + 1, none⟩ = some (Value.slice x.A x.es.length x.c) := hc 1 _ rfl
        have d0 : wr.cell? ⟨b', o' + k * 2, none⟩ = some (Value.string y.nm) := hc' 0 _ rfl
        have d1 : wr.cell? ⟨b', o' + k * 2 + 1, none⟩ = some (Value.slice y.A y.es.length y.c) := hc' 1 _ rfl
        have hb2 := (box_below wr (.cells #[.string x.nm, .slice x.A x.es.length x.c] 52)).alloc (by simp) (.cells #[.string y.nm, .slice y.A y.es.length y.c] 52)
        have hbw2 := hbw.trans (hb2.mono hbw.size)
        have H := Lib.hid (HP.out x (List.mem_of_getElem? hx) y (List.mem_of_getElem? hy) _ hbw2)
        have HB := Lib.hid hbw2
        have HS := Lib.hid hbw2.size
        clear hc hc' hx hy hb2 hbw2
        cases hxy : zoneB x.zn y.zn with
        | true =>
          rw [hxy] at H
          have HXY := Lib.hid hxy
          clear hxy
          go_wp2_with (go_at_fn g; refine H.out.mono ?_; rintro e w1 ⟨rfl, b1⟩)
          go_roundw
          case rel =>
            refine ⟨k + 1, by omega, by go_num, HB.out.trans (b1.mono HS.out), Lib.hid (fun j x' y' hj2 h1 h2 => ?_)⟩
            rcases Nat.lt_or_ge j k with h | h
            · exact hj.out j x' y' h h1 h2
            · obtain rfl : j = k := by omega
              have e1 := HX.out
              have e2 := HY.out
              rw [e1] at h1
              rw [e2] at h2
              injection h1 with h1
              injection h2 with h2
              subst h1 h2
              exact HXY.out
          case measure => simp [intOf]; omega
        | false =>
          rw [hxy] at H
          have HXY := Lib.hid hxy
          clear hxy
          go_wp2_with (go_at_fn g; refine H.out.mono ?_; rintro e w1 ⟨rfl, b1⟩)
          go_ret
          exact ⟨ret_bool (alike_no (t := fun x y => zoneB x.zn y.zn) l l' k x y HX.out HY.out HXY.out).symm, HB.out.trans (b1.mono HS.out)⟩
      · obtain rfl : k = n := by omega
        go_wp2_with fail
        go_ret
        exact ⟨ret_bool (alike_yes (t := fun x y => zoneB x.zn y.zn) l l' (by rw [HL.out, HL'.out]) (fun j x y hj2 h1 h2 => hj.out j x y (by have := HL.out; omega) h1 h2)).symm, hbw⟩
  · rw [alike_len l l' (by omega)]
    clear hR hR' hl hl' hp
    have hne' : ¬ (n : Int) = (n' : Int) := by omega
    go_enter Tryz.func33, Tryz.ntmps33
    go_wp2_with fail
    go_ret
    exact ⟨rfl, Below.refl _ _⟩
/-- Two sources are alike. -/
def srcB (a b : Src) : Bool := alike ruleB a.rs b.rs && (alike zoneB a.zs b.zs && alike linkB a.ls b.ls)
theorem srcB_iff (a b : Src) : srcB a b = true ↔ a = b := by
  obtain ⟨r, z, l⟩ := a
  obtain ⟨r', z', l'⟩ := b
  unfold srcB
  rw [Bool.and_eq_true, Bool.and_eq_true, alike_iff ruleB_iff, alike_iff zoneB_iff, alike_iff linkB_iff]
  constructor
  · rintro ⟨h1, h2, h3⟩
    simp only at h1 h2 h3
    subst h1 h2 h3
    rfl
  · intro h
    injection h with h1 h2 h3
    subst h1 h2 h3
    exact ⟨rfl, rfl, rfl⟩
set_option maxRecDepth 100000 in
set_option maxHeartbeats 2000000 in
theorem ssame_any (d d' : Sd) (w : World) (hf : d.fits) (hf' : d'.fits) (hd : d.at_ w w.heap.size) (hd' : d'.at_ w w.heap.size) (v : Bool) (hv : srcB d.src d'.src = v) :
    Calls Tryz.prog 10 #[d.val, d'.val] w fun e w' => e = .returned (.bool v) ∧ Below w.heap.size w w' := by
  subst hv
  obtain ⟨rA, rc, rs, zA, zc, zs, lA, lc, ls⟩ := d
  obtain ⟨rA', rc', rs', zA', zc', zs', lA', lc', ls'⟩ := d'
  obtain ⟨f1, f2, f3, f4, f5, f6⟩ := hf
  obtain ⟨g1, g2, g3, g4, g5, g6⟩ := hf'
  obtain ⟨d1, d2, d3, d4⟩ := hd
  obtain ⟨e1, e2, e3, e4⟩ := hd'
  simp only at f1 f2 f3 f4 f5 f6 d1 d2 d3 d4 g1 g2 g3 g4 g5 g6 e1 e2 e3 e4
  show Calls Tryz.prog 10 #[.agg #[.slice rA rs.length rc, .slice zA zs.length zc, .slice lA ls.length lc], .agg #[.slice rA' rs'.length rc', .slice zA' zs'.length zc', .slice lA' ls'.length lc']] w fun e w' => e = .returned (.bool (alike ruleB rs rs' && (alike zoneB (zs.map Zd.zn) (zs'.map Zd.zn) && alike linkB ls ls'))) ∧ Below w.heap.size w w'
  have hb := (box_below w (.cells #[.slice rA rs.length rc, .slice zA zs.length zc, .slice lA ls.length lc] 27)).alloc (by simp) (.cells #[.slice rA' rs'.length rc', .slice zA' zs'.length zc', .slice lA' ls'.length lc'] 27)
  have H1 := Lib.hid (equal_rule rA rA' rs.length rs'.length rc rc' rs rs' _ rfl rfl f1 g1 (d1.on hb) (e1.on hb) _ rfl)
  have H2 := Lib.hid (fun W (hW : Below w.heap.size w W) => equal_zones 30 enters_same zA zA' zs.length zs'.length zc zc' zs zs' W rfl rfl f2 g2 (d2.on hW) (e2.on hW) (fun x hx y hy W' hb' => sameZone_any x y W' (f5 x hx).2.1 (g5 y hy).2.1 ((d3 x hx).on (hW.trans (hb'.mono hW.size))) ((e3 y hy).on (hW.trans (hb'.mono hW.size)))) _ rfl)
  have H3 := Lib.hid (fun W (hW : Below w.heap.size w W) => equal_link lA lA' ls.length ls'.length lc lc' ls ls' W rfl rfl f3 g3 (d4.on hW) (e4.on hW) _ rfl)
  have HB := Lib.hid hb
  clear hb d1 d2 d3 d4 f4 f5 f6 e1 e2 e3 e4 g4 g5 g6
  generalize alike ruleB rs rs' = q1 at *
  generalize alike zoneB (zs.map Zd.zn) (zs'.map Zd.zn) = q2 at *
  generalize alike linkB ls ls' = q3 at *
  generalize rs.length = n1 at *
  generalize zs.length = n2 at *
  generalize ls.length = n3 at *
  generalize rs'.length = n4 at *
  generalize zs'.length = n5 at *
  generalize ls'.length = n6 at *
  cases q1 with
  | false =>
    clear H2 H3
    go_enter Tryz.func10, Tryz.ntmps10
    go_wp2_with fail
    refine H1.out.mono ?_
    rintro e w1 ⟨rfl, b1⟩
    have a1 := HB.out.trans (b1.mono (by simp; omega))
    clear b1 H1 HB
    go_wp2_with fail
    go_ret
    exact ⟨rfl, a1⟩
  | true =>
    cases q2 with
    | false =>
      clear H3
      go_enter Tryz.func10, Tryz.ntmps10
      go_wp2_with fail
      refine H1.out.mono ?_
      rintro e w1 ⟨rfl, b1⟩
      have a1 := HB.out.trans (b1.mono (by simp; omega))
      have z1 : w.heap.size + 1 < w1.heap.size := by have := b1.size; simp at this; omega
      have z0 : w.heap.size < w1.heap.size := by omega
      obtain ⟨hc, _⟩ := bcell b1
      clear b1 H1 HB
      go_wp2_with fail
      refine (H2.out _ a1).mono ?_
      rintro e w2 ⟨rfl, b2⟩
      have a2 := a1.trans (b2.mono a1.size)
      clear a1 b2 H2
      go_wp2_with fail
      go_ret
      exact ⟨rfl, a2⟩
    | true =>
      go_enter Tryz.func10, Tryz.ntmps10
      go_wp2_with fail
      refine H1.out.mono ?_
      rintro e w1 ⟨rfl, b1⟩
      have a1 := HB.out.trans (b1.mono (by simp; omega))
      have z1 : w.heap.size + 1 < w1.heap.size := by have := b1.size; simp at this; omega
      have z0 : w.heap.size < w1.heap.size := by omega
      obtain ⟨hc, _⟩ := bcell b1
      clear b1 H1 HB
      go_wp2_with fail
      refine (H2.out _ a1).mono ?_
      rintro e w2 ⟨rfl, b2⟩
      have a2 := a1.trans (b2.mono a1.size)
      obtain ⟨hc2, _⟩ := bcell b2
      clear a1 b2 H2
      go_wp2_with fail
      refine (H3.out _ a2).mono ?_
      rintro e w3 ⟨rfl, b3⟩
      have a3 := a2.trans (b3.mono a2.size)
      clear a2 b3 H3
      go_wp2_with fail
      go_ret
      exact ⟨rfl, a3⟩
end Go.Proofs.YtkcbmnboccjnnaaGreatDoor
