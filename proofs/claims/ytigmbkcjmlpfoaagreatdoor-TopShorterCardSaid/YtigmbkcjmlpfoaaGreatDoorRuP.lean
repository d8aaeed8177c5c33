/- Contracts of package rule: the readers of its texts, readPart. -/
import Derived.Test.YtigmbkcjmlpfoaaGreatDoorRuR
namespace Go.Proofs.YtigmbkcjmlpfoaaGreatDoor
open Go.RowKit
/-- A rule at block g. -/
structure Rn (w : World) (B g : Nat) (r : Ru) : Prop where
  base : B ≤ g
  lt : g < w.heap.size
  c0 : w.cell? ⟨g, 0, none⟩ = some (.string r.nm)
  c1 : w.cell? ⟨g, 1, none⟩ = some (.int .i64 r.fr)
  c2 : w.cell? ⟨g, 2, none⟩ = some (.int .i64 r.tl)
  c3 : w.cell? ⟨g, 3, none⟩ = some (.int .i64 r.m)
  c4 : w.cell? ⟨g, 4, none⟩ = some (.int .u8 r.k)
  c5 : w.cell? ⟨g, 5, none⟩ = some (.int .i64 r.n)
  c6 : w.cell? ⟨g, 6, none⟩ = some (.int .i64 r.d)
  c7 : w.cell? ⟨g, 7, none⟩ = some (.int .i64 r.s)
  c8 : w.cell? ⟨g, 8, none⟩ = some (.int .u8 r.c)
  c9 : w.cell? ⟨g, 9, none⟩ = some (.int .i64 r.sv)
  c10 : w.cell? ⟨g, 10, none⟩ = some (.string r.lt)
  f0 : w.frozen? ⟨g, 0, none⟩ = false
  f1 : w.frozen? ⟨g, 1, none⟩ = false
  f2 : w.frozen? ⟨g, 2, none⟩ = false
  f3 : w.frozen? ⟨g, 3, none⟩ = false
  f4 : w.frozen? ⟨g, 4, none⟩ = false
  f5 : w.frozen? ⟨g, 5, none⟩ = false
  f6 : w.frozen? ⟨g, 6, none⟩ = false
  f7 : w.frozen? ⟨g, 7, none⟩ = false
  f8 : w.frozen? ⟨g, 8, none⟩ = false
  f9 : w.frozen? ⟨g, 9, none⟩ = false
  f10 : w.frozen? ⟨g, 10, none⟩ = false
theorem Rn.below {w w' : World} {B g : Nat} {r : Ru} (h : Rn w B g r) (hb : Below w.heap.size w w') : Rn w' B g r := by
  obtain ⟨hc, hf⟩ := bcell hb
  have hl := h.lt
  exact ⟨h.base, Nat.lt_of_lt_of_le hl hb.size, (hc _ _ hl).trans h.c0, (hc _ _ hl).trans h.c1, (hc _ _ hl).trans h.c2, (hc _ _ hl).trans h.c3, (hc _ _ hl).trans h.c4, (hc _ _ hl).trans h.c5, (hc _ _ hl).trans h.c6, (hc _ _ hl).trans h.c7, (hc _ _ hl).trans h.c8, (hc _ _ hl).trans h.c9, (hc _ _ hl).trans h.c10,
    (hf _ _ hl).trans h.f0, (hf _ _ hl).trans h.f1, (hf _ _ hl).trans h.f2, (hf _ _ hl).trans h.f3, (hf _ _ hl).trans h.f4, (hf _ _ hl).trans h.f5, (hf _ _ hl).trans h.f6, (hf _ _ hl).trans h.f7, (hf _ _ hl).trans h.f8, (hf _ _ hl).trans h.f9, (hf _ _ hl).trans h.f10⟩
theorem Rn.stay {w w' : World} {B B' g : Nat} {r : Ru} (h : Rn w B g r) (hb : Below B' w w') (hg : g < B') : Rn w' B g r := by
  have hc : ∀ o, w'.cell? ⟨g, o, none⟩ = w.cell? ⟨g, o, none⟩ := fun o => hb.cell (p := ⟨g, o, none⟩) hg
  have hf : ∀ o, w'.frozen? ⟨g, o, none⟩ = w.frozen? ⟨g, o, none⟩ := fun o => hb.frozen (p := ⟨g, o, none⟩) hg
  exact ⟨h.base, Nat.lt_of_lt_of_le h.lt hb.size, (hc _).trans h.c0, (hc _).trans h.c1, (hc _).trans h.c2, (hc _).trans h.c3, (hc _).trans h.c4, (hc _).trans h.c5, (hc _).trans h.c6, (hc _).trans h.c7, (hc _).trans h.c8, (hc _).trans h.c9, (hc _).trans h.c10,
    (hf _).trans h.f0, (hf _).trans h.f1, (hf _).trans h.f2, (hf _).trans h.f3, (hf _).trans h.f4, (hf _).trans h.f5, (hf _).trans h.f6, (hf _).trans h.f7, (hf _).trans h.f8, (hf _).trans h.f9, (hf _).trans h.f10⟩
theorem dash_no {s : ByteArray} (h : s.data.toList ≠ [45]) : (s.toList == [45]) = false ∧ ¬ s.toList = [45] := toList_ne h
theorem dash_eq {s : ByteArray} (h : s.data.toList = [45]) : s = ⟨#[45]⟩ := ByteArray.ext (Array.toList_inj.1 h)
theorem readName_any (s : ByteArray) (w : World) (hs : s.size ≤ 9223372036854775807) : Calls Tryz.prog 54 #[.string s] w fun e w' => e = .returned (.tuple #[.string (Rl.nam s).1, .int .i64 (Rl.nam s).2]) ∧ Below w.heap.size w w' := by
  cases h : Rl.name s.data.toList with
  | true =>
    rw [show Rl.nam s = (s, 0) by unfold Rl.nam; rw [if_pos h]]
    have H := Lib.hid h
    clear h
    go_enter Tryz.func54, Tryz.ntmps54
    go_wp2_with fail
    refine (rname_is s true _ hs H.out).mono ?_
    rintro e w' ⟨rfl, rfl⟩
    go_wp2_with fail
    go_ret2
    exact ⟨rfl, Below.refl _ _⟩
  | false =>
    rw [show Rl.nam s = (⟨#[]⟩, 7) by unfold Rl.nam; rw [if_neg (by rw [h]; decide)]]
    have H := Lib.hid h
    clear h
    go_enter Tryz.func54, Tryz.ntmps54
    go_wp2_with fail
    refine (rname_is s false _ hs H.out).mono ?_
    rintro e w' ⟨rfl, rfl⟩
    go_wp2_with fail
    go_ret2
    exact ⟨rfl, Below.refl _ _⟩
theorem yr_step (s : ByteArray) : (Mo.prsU [s]).1.y = Mo.yr s.data.toList ∧ (Mo.prsU [s]).2.2 = (if Mo.yr s.data.toList = 0 then 4 else 0) := by
  have e : Mo.prsU [s] = Mo.run 0 [s] Ut.first := rfl
  rw [e, Mo.run]
  have h : (Mo.step 0 s Ut.first).2 = (if Mo.yr s.data.toList = 0 then (4 : Int) else 0) := rfl
  by_cases h0 : Mo.yr s.data.toList = 0
  · rw [h, if_pos h0, if_neg (by decide)]
    exact ⟨h0.symm, rfl⟩
  · rw [h, if_neg h0, if_pos rfl, Mo.run]
    exact ⟨rfl, rfl⟩
theorem ryear_any (s : ByteArray) (w : World) (hE : Env w) (hs : s.size ≤ 4096) : Calls Tryz.prog 55 #[.string s] w fun e w' => e = .returned (.tuple #[.int .i64 (Mo.yr s.data.toList), .int .i64 (if Mo.yr s.data.toList = 0 then 4 else 0)]) ∧ Below w.heap.size w w' := by
  obtain ⟨e1, e2⟩ := yr_step s
  have hU := fun (W : World) (g : Nat) (hE : Env W) (hg : g < W.heap.size) (hc : W.cell? ⟨g, 0, none⟩ = some (.string s)) => uprs_any (some ⟨g, 0, none⟩) 1 1 [s] rfl (by omega) (fun _ i hi => by have h : i = 0 := (by omega); subst h; exact hs) W hE W.heap.size (Nat.le_refl _) (sl_one hg hc)
  unfold UPrsE at hU
  rw [e2] at hU
  generalize Mo.prsU [s] = q at *
  obtain ⟨⟨vy, vm, vk, vn, vd, vs, vc⟩, i, z⟩ := q
  have e1 : vy = Mo.yr s.data.toList := e1
  subst e1
  have HU := Lib.hid hU
  have HE := Lib.hid hE
  clear hU e2 hE
  generalize (if Mo.yr s.data.toList = 0 then (4 : Int) else 0) = z' at *
  generalize Mo.yr s.data.toList = y at *
  go_enter Tryz.func55, Tryz.ntmps55
  go_wp2_with fail
  refine (HU.out _ w.heap.size (HE.out.alloc _) (by simp) (by go_simp)).mono ?_
  rintro e w1 ⟨rfl, b1⟩
  have a1 : Below w.heap.size w w1 := ((Below.refl _ _).alloc (Nat.le_refl _) _).trans (b1.mono (by simp))
  have z1 := a1.size
  go_wp2_with fail
  go_ret2
  refine ⟨rfl, ?_⟩
  repeat (first | exact Below.refl _ _ | assumption | refine below_drewN ?_ _ | refine Below.drew ?_ | refine Below.setCell ?_ (by first | omega | (simp; done) | (simp; omega)) _ | refine Below.alloc ?_ (by first | omega | (simp; done) | (simp; omega)) _)
theorem ends_sl (W : World) (g : Nat) (hg : g < W.heap.size) (h0 : W.cell? ⟨g, 0, none⟩ = some (.string Rl.onlyW)) (h1 : W.cell? ⟨g, 1, none⟩ = some (.string Rl.maxW)) : Sl W W.heap.size (some ⟨g, 0, none⟩) 2 (fun i => .string (Rl.ends.getD i ByteArray.empty)) := sl_two hg h0 h1
theorem pick_ends (s : ByteArray) (g : Nat) (v : Int) (W : World) (hs : s.size ≤ 4096) (hg : g < W.heap.size) (h0 : W.cell? ⟨g, 0, none⟩ = some (.string ⟨#[111, 110, 108, 121]⟩)) (h1 : W.cell? ⟨g, 1, none⟩ = some (.string ⟨#[109, 97, 120, 105, 109, 117, 109]⟩)) (hv : Wd.pick s Rl.ends = v) :
    Calls Tryz.prog 83 #[.string s, .slice (some ⟨g, 0, none⟩) 2 2] W fun e w' => e = .returned (.int .i64 v) ∧ Below W.heap.size W w' := by
  subst hv
  exact pick_any s (some ⟨g, 0, none⟩) 2 2 Rl.ends rfl (by omega) (by omega) (fun i hi => by
    have h2 : i = 0 ∨ i = 1 := by omega
    rcases h2 with rfl | rfl
    · decide +kernel
    · decide +kernel) W W.heap.size (Nat.le_refl _) (ends_sl W g hg h0 h1)
section
variable (s : ByteArray) (fr : Int) (w : World)
theorem rto_only (hs : s.size ≤ 4096) (h : Wd.pick s Rl.ends = 0) : Calls Tryz.prog 56 #[.string s, .int .i64 fr] w fun e w' => e = .returned (.tuple #[.int .i64 fr, .int .i64 0]) ∧ Below w.heap.size w w' := by
  have H := Lib.hid h
  clear h
  go_enter Tryz.func56, Tryz.ntmps56
  go_wp2_with fail
  refine (pick_ends s w.heap.size 0 _ hs (by simp) (by go_simp) (by go_simp) H.out).mono ?_
  rintro e w1 ⟨rfl, b1⟩
  have a1 : Below w.heap.size w w1 := ((Below.refl _ _).alloc (Nat.le_refl _) _).trans (b1.mono (by simp))
  go_wp2_with fail
  go_ret2
  exact ⟨rfl, a1⟩
theorem rto_max (hs : s.size ≤ 4096) (h : Wd.pick s Rl.ends = 1) : Calls Tryz.prog 56 #[.string s, .int .i64 fr] w fun e w' => e = .returned (.tuple #[.int .i64 9999, .int .i64 0]) ∧ Below w.heap.size w w' := by
  have H := Lib.hid h
  clear h
  go_enter Tryz.func56, Tryz.ntmps56
  go_wp2_with fail
  refine (pick_ends s w.heap.size 1 _ hs (by simp) (by go_simp) (by go_simp) H.out).mono ?_
  rintro e w1 ⟨rfl, b1⟩
  have a1 : Below w.heap.size w w1 := ((Below.refl _ _).alloc (Nat.le_refl _) _).trans (b1.mono (by simp))
  go_wp2_with fail
  go_ret2
  exact ⟨rfl, a1⟩
theorem rto_none (hs : s.size ≤ 4096) (h : Wd.pick s Rl.ends = -1) (hy : Mo.yr s.data.toList = 0) (hE : Env w) : Calls Tryz.prog 56 #[.string s, .int .i64 fr] w fun e w' => e = .returned (.tuple #[.int .i64 0, .int .i64 4]) ∧ Below w.heap.size w w' := by
  have H := Lib.hid h
  have HY := Lib.hid (fun W (hE : Env W) => by
    have hr := ryear_any s W hE hs
    rw [hy, if_pos rfl] at hr
    exact hr)
  have HE := Lib.hid hE
  clear h hy hE
  go_enter Tryz.func56, Tryz.ntmps56
  go_wp2_with fail
  refine (pick_ends s w.heap.size (-1) _ hs (by simp) (by go_simp) (by go_simp) H.out).mono ?_
  rintro e w1 ⟨rfl, b1⟩
  have a1 : Below w.heap.size w w1 := ((Below.refl _ _).alloc (Nat.le_refl _) _).trans (b1.mono (by simp))
  go_wp2_with fail
  refine (HY.out _ (HE.out.below a1)).mono ?_
  rintro e w2 ⟨rfl, b2⟩
  have a2 := a1.trans (b2.mono a1.size)
  go_wp2_with fail
  go_ret2
  exact ⟨rfl, a2⟩
theorem rto_year (y : Int) (v : Bool) (hs : s.size ≤ 4096) (h : Wd.pick s Rl.ends = -1) (hy : Mo.yr s.data.toList = y) (h0 : y ≠ 0) (hE : Env w) (hv : decide (fr ≤ y) = v) : Calls Tryz.prog 56 #[.string s, .int .i64 fr] w fun e w' => e = .returned (.tuple #[.int .i64 (if v = true then y else 0), .int .i64 (if v = true then 0 else 10)]) ∧ Below w.heap.size w w' := by
  have H := Lib.hid h
  have HY := Lib.hid (fun W (hE : Env W) => by
    have hr := ryear_any s W hE hs
    rw [hy, if_neg h0] at hr
    exact hr)
  have HE := Lib.hid hE
  have HV := Lib.hid (show up [fr, y] = v by rw [← hv]; simp [up])
  clear h hy hE h0 hv
  cases v with
  | true =>
    go_enter Tryz.func56, Tryz.ntmps56
    go_wp2_with fail
    refine (pick_ends s w.heap.size (-1) _ hs (by simp) (by go_simp) (by go_simp) H.out).mono ?_
    rintro e w1 ⟨rfl, b1⟩
    have a1 : Below w.heap.size w w1 := ((Below.refl _ _).alloc (Nat.le_refl _) _).trans (b1.mono (by simp))
    go_wp2_with fail
    refine (HY.out _ (HE.out.below a1)).mono ?_
    rintro e w2 ⟨rfl, b2⟩
    have a2 := a1.trans (b2.mono a1.size)
    go_wp2_with fail
    refine (rise2 w2.heap.size _ fr y true (by simp) (by go_simp) (by go_simp) HV.out).mono ?_
    rintro e w3 ⟨rfl, b3⟩
    have a3 := (a2.alloc a2.size _).trans (b3.mono (by have := a2.size; simp; omega))
    go_wp2_with fail
    go_ret2
    exact ⟨rfl, a3⟩
  | false =>
    go_enter Tryz.func56, Tryz.ntmps56
    go_wp2_with fail
    refine (pick_ends s w.heap.size (-1) _ hs (by simp) (by go_simp) (by go_simp) H.out).mono ?_
    rintro e w1 ⟨rfl, b1⟩
    have a1 : Below w.heap.size w w1 := ((Below.refl _ _).alloc (Nat.le_refl _) _).trans (b1.mono (by simp))
    go_wp2_with fail
    refine (HY.out _ (HE.out.below a1)).mono ?_
    rintro e w2 ⟨rfl, b2⟩
    have a2 := a1.trans (b2.mono a1.size)
    go_wp2_with fail
    refine (rise2 w2.heap.size _ fr y false (by simp) (by go_simp) (by go_simp) HV.out).mono ?_
    rintro e w3 ⟨rfl, b3⟩
    have a3 := (a2.alloc a2.size _).trans (b3.mono (by have := a2.size; simp; omega))
    go_wp2_with fail
    go_ret2
    exact ⟨rfl, a3⟩
theorem rto_any (hs : s.size ≤ 4096) (hE : Env w) : Calls Tryz.prog 56 #[.string s, .int .i64 fr] w fun e w' => e = .returned (.tuple #[.int .i64 (Rl.till fr s).1, .int .i64 (Rl.till fr s).2]) ∧ Below w.heap.size w w' := by
  have hg := Wd.pick_ge s Rl.ends
  have hl : Wd.pick s Rl.ends < 2 := Wd.pick_lt s Rl.ends
  by_cases h0 : Wd.pick s Rl.ends = 0
  · rw [show Rl.till fr s = (fr, 0) by unfold Rl.till; rw [if_pos h0]]
    exact rto_only s fr w hs h0
  · by_cases h1 : Wd.pick s Rl.ends = 1
    · rw [show Rl.till fr s = (9999, 0) by unfold Rl.till; rw [if_neg h0, if_pos h1]]
      exact rto_max s fr w hs h1
    · have hm : Wd.pick s Rl.ends = -1 := by omega
      by_cases h2 : Mo.yr s.data.toList = 0
      · rw [show Rl.till fr s = (0, 4) by unfold Rl.till; rw [if_neg h0, if_neg h1, if_pos h2]]
        exact rto_none s fr w hs hm h2 hE
      · by_cases h3 : fr ≤ Mo.yr s.data.toList
        · rw [show Rl.till fr s = (Mo.yr s.data.toList, 0) by unfold Rl.till; rw [if_neg h0, if_neg h1, if_neg h2, if_neg (by omega)]]
          exact rto_year s fr w _ true hs hm rfl h2 hE (decide_eq_true h3)
        · rw [show Rl.till fr s = (0, 10) by unfold Rl.till; rw [if_neg h0, if_neg h1, if_neg h2, if_pos (by omega)]]
          exact rto_year s fr w _ false hs hm rfl h2 hE (decide_eq_false h3)
theorem rnone_any : Calls Tryz.prog 57 #[.string s] w fun e w' => e = .returned (.int .i64 (if s.data.toList = [45] then 0 else 4)) ∧ Below w.heap.size w w' := by
  by_cases h : s.data.toList = [45]
  · rw [if_pos h]
    obtain rfl := dash_eq h
    clear h
    go_enter Tryz.func57, Tryz.ntmps57
    go_wp2_with fail
    go_ret
    exact ⟨rfl, Below.refl _ _⟩
  · rw [if_neg h]
    obtain ⟨t1, t2⟩ := dash_no h
    clear h
    go_enter Tryz.func57, Tryz.ntmps57
    go_wp2_with fail
    go_ret
    exact ⟨rfl, Below.refl _ _⟩
theorem rmonth_any (hs : s.size ≤ 4294967296) : Calls Tryz.prog 58 #[.string s] w fun e w' => e = .returned (.tuple #[.int .i64 (Wd.pick s Wd.mons + 1), .int .i64 (if Wd.pick s Wd.mons + 1 = 0 then 7 else 0)]) ∧ Below w.heap.size w w' := by
  have hb1 := Wd.pick_ge s Wd.mons
  have hm := monthWord_any s
  by_cases h : Wd.pick s Wd.mons + 1 = 0
  · rw [if_pos h, h]
    rw [h] at hm
    have HM := Lib.hid hm
    clear h hm hb1
    go_enter Tryz.func58, Tryz.ntmps58
    go_wp2_with fail
    refine (HM.out _ hs).mono ?_
    rintro e w1 ⟨rfl, b1⟩
    go_wp2_with fail
    go_ret2
    exact ⟨rfl, b1⟩
  · rw [if_neg h]
    have t1 : (Wd.pick s Wd.mons + 1 == 0) = false := by rw [beq_eq_false_iff_ne]; exact h
    generalize Wd.pick s Wd.mons + 1 = p at *
    have HM := Lib.hid hm
    clear h hm
    go_enter Tryz.func58, Tryz.ntmps58
    go_wp2_with fail
    refine (HM.out _ hs).mono ?_
    rintro e w1 ⟨rfl, b1⟩
    go_wp2_with fail
    go_ret2
    exact ⟨rfl, b1⟩
theorem rsave_any (hs : s.size ≤ 4096) (hE : Env w) : Calls Tryz.prog 61 #[.string s] w fun e w' => e = .returned (.tuple #[.int .i64 (Rl.save s.data.toList).1, .int .i64 (Rl.save s.data.toList).2]) ∧ Below w.heap.size w w' := by
  by_cases h : s.data.toList = [45]
  · rw [show Rl.save s.data.toList = (0, 0) by unfold Rl.save; rw [if_pos h]]
    obtain rfl := dash_eq h
    clear h
    go_enter Tryz.func61, Tryz.ntmps61
    go_wp2_with fail
    go_ret2
    exact ⟨rfl, Below.refl _ _⟩
  · rw [show Rl.save s.data.toList = parseL s.data.toList by unfold Rl.save; rw [if_neg h]]
    have HP := Lib.hid (parse_any s w hE hs)
    obtain ⟨t1, t2⟩ := dash_no h
    generalize parseL s.data.toList = q at *
    clear h hE
    go_enter Tryz.func61, Tryz.ntmps61
    go_wp2_with fail
    refine (HP.out).mono ?_
    rintro e w1 ⟨rfl, b1⟩
    go_wp2_with fail
    go_ret2
    exact ⟨rfl, b1⟩
theorem rlett_any : Calls Tryz.prog 62 #[.string s] w fun e w' => e = .returned (.tuple #[.string (Rl.lett s).1, .int .i64 (Rl.lett s).2]) ∧ Below w.heap.size w w' := by
  by_cases h : s.data.toList = [45]
  · rw [show Rl.lett s = (⟨#[]⟩, 0) by unfold Rl.lett; rw [if_pos h]]
    obtain rfl := dash_eq h
    clear h
    go_enter Tryz.func62, Tryz.ntmps62
    go_wp2_with fail
    go_ret2
    exact ⟨rfl, Below.refl _ _⟩
  · cases h1 : Fm.ltr s.data.toList with
    | true =>
      rw [show Rl.lett s = (s, 0) by unfold Rl.lett; rw [if_neg h, if_pos h1]]
      obtain ⟨t1, t2⟩ := dash_no h
      have H1 := Lib.hid h1
      clear h h1
      go_enter Tryz.func62, Tryz.ntmps62
      go_wp2_with fail
      refine (cletter_yes s _ H1.out).mono ?_
      rintro e w1 ⟨rfl, b1⟩
      go_wp2_with fail
      go_ret2
      exact ⟨rfl, b1⟩
    | false =>
      rw [show Rl.lett s = (⟨#[]⟩, 4) by unfold Rl.lett; rw [if_neg h, if_neg (by rw [h1]; decide)]]
      obtain ⟨t1, t2⟩ := dash_no h
      have H1 := Lib.hid h1
      clear h h1
      go_enter Tryz.func62, Tryz.ntmps62
      go_wp2_with fail
      refine (cletter_no s _ H1.out).mono ?_
      rintro e w1 ⟨rfl, b1⟩
      go_wp2_with fail
      go_ret2
      exact ⟨rfl, b1⟩
end
section
variable (B g : Nat) (t : ByteArray) (r : Ru) (w : World)
theorem rpart0 (z : Int) (v : ByteArray) (hE : Env w) (hu : Rn w B g r) (hR : Hid (∀ W, Calls Tryz.prog 54 #[.string t] W fun e w' => e = .returned (.tuple #[.string v, .int .i64 z]) ∧ Below W.heap.size W w')) :
    Calls Tryz.prog 29 #[.pointer (some ⟨g, 0, none⟩), .int .i64 0, .string t] w fun e w' => e = .returned (.int .i64 z) ∧ Rn w' B g ({ r with nm := v }) ∧ Below B w w' := by
  have HU := Lib.hid hu
  have HE := Lib.hid hE
  have hB := hu.base
  have hl0 := hu.lt
  clear hu hE
  go_enter Tryz.func29, Tryz.ntmps29
  go_wp2_with fail
  refine (hR.out _).mono ?_
  rintro e w1 ⟨rfl, b1⟩
  obtain ⟨_, hl, c0, c1, c2, c3, c4, c5, c6, c7, c8, c9, c10, f0, f1, f2, f3, f4, f5, f6, f7, f8, f9, f10⟩ := HU.out.below b1
  have a1 := b1.mono (show B ≤ w.heap.size by omega)
  clear b1 HU
  go_wp2_with fail
  go_ret
  refine ⟨rfl, ⟨hB, by simpa using hl, by go_simp, by go_simp, by go_simp, by go_simp, by go_simp, by go_simp, by go_simp, by go_simp, by go_simp, by go_simp, by go_simp, by go_simp, by go_simp, by go_simp, by go_simp, by go_simp, by go_simp, by go_simp, by go_simp, by go_simp, by go_simp, by go_simp⟩, ?_⟩
  repeat (first | exact Below.refl _ _ | assumption | refine below_drewN ?_ _ | refine Below.drew ?_ | refine Below.setCell ?_ (by first | omega | (simp; done) | (simp; omega)) _ | refine Below.alloc ?_ (by first | omega | (simp; done) | (simp; omega)) _)
theorem rpart1 (z v : Int) (hE : Env w) (hu : Rn w B g r) (hR : Hid (∀ W, Env W → Calls Tryz.prog 55 #[.string t] W fun e w' => e = .returned (.tuple #[.int .i64 v, .int .i64 z]) ∧ Below W.heap.size W w')) :
    Calls Tryz.prog 29 #[.pointer (some ⟨g, 0, none⟩), .int .i64 1, .string t] w fun e w' => e = .returned (.int .i64 z) ∧ Rn w' B g ({ r with fr := v }) ∧ Below B w w' := by
  have HU := Lib.hid hu
  have HE := Lib.hid hE
  have hB := hu.base
  have hl0 := hu.lt
  clear hu hE
  go_enter Tryz.func29, Tryz.ntmps29
  go_wp2_with fail
  refine (hR.out _ HE.out).mono ?_
  rintro e w1 ⟨rfl, b1⟩
  obtain ⟨_, hl, c0, c1, c2, c3, c4, c5, c6, c7, c8, c9, c10, f0, f1, f2, f3, f4, f5, f6, f7, f8, f9, f10⟩ := HU.out.below b1
  have a1 := b1.mono (show B ≤ w.heap.size by omega)
  clear b1 HU
  go_wp2_with fail
  go_ret
  refine ⟨rfl, ⟨hB, by simpa using hl, by go_simp, by go_simp, by go_simp, by go_simp, by go_simp, by go_simp, by go_simp, by go_simp, by go_simp, by go_simp, by go_simp, by go_simp, by go_simp, by go_simp, by go_simp, by go_simp, by go_simp, by go_simp, by go_simp, by go_simp, by go_simp, by go_simp⟩, ?_⟩
  repeat (first | exact Below.refl _ _ | assumption | refine below_drewN ?_ _ | refine Below.drew ?_ | refine Below.setCell ?_ (by first | omega | (simp; done) | (simp; omega)) _ | refine Below.alloc ?_ (by first | omega | (simp; done) | (simp; omega)) _)
theorem rpart2 (z v : Int) (hE : Env w) (hu : Rn w B g r) (hR : Hid (∀ W, Env W → Calls Tryz.prog 56 #[.string t, .int .i64 r.fr] W fun e w' => e = .returned (.tuple #[.int .i64 v, .int .i64 z]) ∧ Below W.heap.size W w')) :
    Calls Tryz.prog 29 #[.pointer (some ⟨g, 0, none⟩), .int .i64 2, .string t] w fun e w' => e = .returned (.int .i64 z) ∧ Rn w' B g ({ r with tl := v }) ∧ Below B w w' := by
  have HU := Lib.hid hu
  have HE := Lib.hid hE
  have hB := hu.base
  have hl0 := hu.lt
  have d1 := hu.c1
  clear hu hE
  go_enter Tryz.func29, Tryz.ntmps29
  go_wp2_with fail
  refine (hR.out _ HE.out).mono ?_
  rintro e w1 ⟨rfl, b1⟩
  clear d1
  obtain ⟨_, hl, c0, c1, c2, c3, c4, c5, c6, c7, c8, c9, c10, f0, f1, f2, f3, f4, f5, f6, f7, f8, f9, f10⟩ := HU.out.below b1
  have a1 := b1.mono (show B ≤ w.heap.size by omega)
  clear b1 HU
  go_wp2_with fail
  go_ret
  refine ⟨rfl, ⟨hB, by simpa using hl, by go_simp, by go_simp, by go_simp, by go_simp, by go_simp, by go_simp, by go_simp, by go_simp, by go_simp, by go_simp, by go_simp, by go_simp, by go_simp, by go_simp, by go_simp, by go_simp, by go_simp, by go_simp, by go_simp, by go_simp, by go_simp, by go_simp⟩, ?_⟩
  repeat (first | exact Below.refl _ _ | assumption | refine below_drewN ?_ _ | refine Below.drew ?_ | refine Below.setCell ?_ (by first | omega | (simp; done) | (simp; omega)) _ | refine Below.alloc ?_ (by first | omega | (simp; done) | (simp; omega)) _)
theorem rpart3 (z : Int) (hE : Env w) (hu : Rn w B g r) (hR : Hid (∀ W, Calls Tryz.prog 57 #[.string t] W fun e w' => e = .returned (.int .i64 z) ∧ Below W.heap.size W w')) :
    Calls Tryz.prog 29 #[.pointer (some ⟨g, 0, none⟩), .int .i64 3, .string t] w fun e w' => e = .returned (.int .i64 z) ∧ Rn w' B g r ∧ Below B w w' := by
  have HU := Lib.hid hu
  have HE := Lib.hid hE
  have hB := hu.base
  have hl0 := hu.lt
  clear hu hE
  go_enter Tryz.func29, Tryz.ntmps29
  go_wp2_with fail
  refine (hR.out _).mono ?_
  rintro e w1 ⟨rfl, b1⟩
  go_wp2_with fail
  go_ret
  exact ⟨rfl, HU.out.below b1, b1.mono (by omega)⟩
theorem rpart4 (z v : Int) (hE : Env w) (hu : Rn w B g r) (hR : Hid (∀ W, Calls Tryz.prog 58 #[.string t] W fun e w' => e = .returned (.tuple #[.int .i64 v, .int .i64 z]) ∧ Below W.heap.size W w')) :
    Calls Tryz.prog 29 #[.pointer (some ⟨g, 0, none⟩), .int .i64 4, .string t] w fun e w' => e = .returned (.int .i64 z) ∧ Rn w' B g ({ r with m := v }) ∧ Below B w w' := by
  have HU := Lib.hid hu
  have HE := Lib.hid hE
  have hB := hu.base
  have hl0 := hu.lt
  clear hu hE
  go_enter Tryz.func29, Tryz.ntmps29
  go_wp2_with fail
  refine (hR.out _).mono ?_
  rintro e w1 ⟨rfl, b1⟩
  obtain ⟨_, hl, c0, c1, c2, c3, c4, c5, c6, c7, c8, c9, c10, f0, f1, f2, f3, f4, f5, f6, f7, f8, f9, f10⟩ := HU.out.below b1
  have a1 := b1.mono (show B ≤ w.heap.size by omega)
  clear b1 HU
  go_wp2_with fail
  go_ret
  refine ⟨rfl, ⟨hB, by simpa using hl, by go_simp, by go_simp, by go_simp, by go_simp, by go_simp, by go_simp, by go_simp, by go_simp, by go_simp, by go_simp, by go_simp, by go_simp, by go_simp, by go_simp, by go_simp, by go_simp, by go_simp, by go_simp, by go_simp, by go_simp, by go_simp, by go_simp⟩, ?_⟩
  repeat (first | exact Below.refl _ _ | assumption | refine below_drewN ?_ _ | refine Below.drew ?_ | refine Below.setCell ?_ (by first | omega | (simp; done) | (simp; omega)) _ | refine Below.alloc ?_ (by first | omega | (simp; done) | (simp; omega)) _)
theorem rpart5 (z k n d : Int) (hE : Env w) (hu : Rn w B g r) (hR : Hid (∀ W, Env W → Calls Tryz.prog 59 #[.string t] W fun e w' => e = .returned (.tuple #[.agg #[.int .u8 k, .int .i64 n, .int .i64 d], .int .i64 z]) ∧ Below W.heap.size W w')) :
    Calls Tryz.prog 29 #[.pointer (some ⟨g, 0, none⟩), .int .i64 5, .string t] w fun e w' => e = .returned (.int .i64 z) ∧ Rn w' B g ({ r with k := k, n := n, d := d }) ∧ Below B w w' := by
  have HU := Lib.hid hu
  have HE := Lib.hid hE
  have hB := hu.base
  have hl0 := hu.lt
  clear hu hE
  go_enter Tryz.func29, Tryz.ntmps29
  go_wp2_with fail
  refine (hR.out _ HE.out).mono ?_
  rintro e w1 ⟨rfl, b1⟩
  obtain ⟨_, hl, c0, c1, c2, c3, c4, c5, c6, c7, c8, c9, c10, f0, f1, f2, f3, f4, f5, f6, f7, f8, f9, f10⟩ := HU.out.below b1
  have a1 := b1.mono (show B ≤ w.heap.size by omega)
  clear b1 HU
  go_wp2_with fail
  go_ret
  refine ⟨rfl, ⟨hB, by simpa using hl, by go_simp, by go_simp, by go_simp, by go_simp, by go_simp, by go_simp, by go_simp, by go_simp, by go_simp, by go_simp, by go_simp, by go_simp, by go_simp, by go_simp, by go_simp, by go_simp, by go_simp, by go_simp, by go_simp, by go_simp, by go_simp, by go_simp⟩, ?_⟩
  repeat (first | exact Below.refl _ _ | assumption | refine below_drewN ?_ _ | refine Below.drew ?_ | refine Below.setCell ?_ (by first | omega | (simp; done) | (simp; omega)) _ | refine Below.alloc ?_ (by first | omega | (simp; done) | (simp; omega)) _)
theorem rpart6 (z s c : Int) (hE : Env w) (hu : Rn w B g r) (hR : Hid (∀ W, Env W → Calls Tryz.prog 60 #[.string t] W fun e w' => e = .returned (.tuple #[.agg #[.int .i64 s, .int .u8 c], .int .i64 z]) ∧ Below W.heap.size W w')) :
    Calls Tryz.prog 29 #[.pointer (some ⟨g, 0, none⟩), .int .i64 6, .string t] w fun e w' => e = .returned (.int .i64 z) ∧ Rn w' B g ({ r with s := s, c := c }) ∧ Below B w w' := by
  have HU := Lib.hid hu
  have HE := Lib.hid hE
  have hB := hu.base
  have hl0 := hu.lt
  clear hu hE
  go_enter Tryz.func29, Tryz.ntmps29
  go_wp2_with fail
  refine (hR.out _ HE.out).mono ?_
  rintro e w1 ⟨rfl, b1⟩
  obtain ⟨_, hl, c0, c1, c2, c3, c4, c5, c6, c7, c8, c9, c10, f0, f1, f2, f3, f4, f5, f6, f7, f8, f9, f10⟩ := HU.out.below b1
  have a1 := b1.mono (show B ≤ w.heap.size by omega)
  clear b1 HU
  go_wp2_with fail
  go_ret
  refine ⟨rfl, ⟨hB, by simpa using hl, by go_simp, by go_simp, by go_simp, by go_simp, by go_simp, by go_simp, by go_simp, by go_simp, by go_simp, by go_simp, by go_simp, by go_simp, by go_simp, by go_simp, by go_simp, by go_simp, by go_simp, by go_simp, by go_simp, by go_simp, by go_simp, by go_simp⟩, ?_⟩
  repeat (first | exact Below.refl _ _ | assumption | refine below_drewN ?_ _ | refine Below.drew ?_ | refine Below.setCell ?_ (by first | omega | (simp; done) | (simp; omega)) _ | refine Below.alloc ?_ (by first | omega | (simp; done) | (simp; omega)) _)
theorem rpart7 (z v : Int) (hE : Env w) (hu : Rn w B g r) (hR : Hid (∀ W, Env W → Calls Tryz.prog 61 #[.string t] W fun e w' => e = .returned (.tuple #[.int .i64 v, .int .i64 z]) ∧ Below W.heap.size W w')) :
    Calls Tryz.prog 29 #[.pointer (some ⟨g, 0, none⟩), .int .i64 7, .string t] w fun e w' => e = .returned (.int .i64 z) ∧ Rn w' B g ({ r with sv := v }) ∧ Below B w w' := by
  have HU := Lib.hid hu
  have HE := Lib.hid hE
  have hB := hu.base
  have hl0 := hu.lt
  clear hu hE
  go_enter Tryz.func29, Tryz.ntmps29
  go_wp2_with fail
  refine (hR.out _ HE.out).mono ?_
  rintro e w1 ⟨rfl, b1⟩
  obtain ⟨_, hl, c0, c1, c2, c3, c4, c5, c6, c7, c8, c9, c10, f0, f1, f2, f3, f4, f5, f6, f7, f8, f9, f10⟩ := HU.out.below b1
  have a1 := b1.mono (show B ≤ w.heap.size by omega)
  clear b1 HU
  go_wp2_with fail
  go_ret
  refine ⟨rfl, ⟨hB, by simpa using hl, by go_simp, by go_simp, by go_simp, by go_simp, by go_simp, by go_simp, by go_simp, by go_simp, by go_simp, by go_simp, by go_simp, by go_simp, by go_simp, by go_simp, by go_simp, by go_simp, by go_simp, by go_simp, by go_simp, by go_simp, by go_simp, by go_simp⟩, ?_⟩
  repeat (first | exact Below.refl _ _ | assumption | refine below_drewN ?_ _ | refine Below.drew ?_ | refine Below.setCell ?_ (by first | omega | (simp; done) | (simp; omega)) _ | refine Below.alloc ?_ (by first | omega | (simp; done) | (simp; omega)) _)
theorem rpart8 (z : Int) (v : ByteArray) (hE : Env w) (hu : Rn w B g r) (hR : Hid (∀ W, Calls Tryz.prog 62 #[.string t] W fun e w' => e = .returned (.tuple #[.string v, .int .i64 z]) ∧ Below W.heap.size W w')) :
    Calls Tryz.prog 29 #[.pointer (some ⟨g, 0, none⟩), .int .i64 8, .string t] w fun e w' => e = .returned (.int .i64 z) ∧ Rn w' B g ({ r with lt := v }) ∧ Below B w w' := by
  have HU := Lib.hid hu
  have HE := Lib.hid hE
  have hB := hu.base
  have hl0 := hu.lt
  clear hu hE
  go_enter Tryz.func29, Tryz.ntmps29
  go_wp2_with fail
  refine (hR.out _).mono ?_
  rintro e w1 ⟨rfl, b1⟩
  obtain ⟨_, hl, c0, c1, c2, c3, c4, c5, c6, c7, c8, c9, c10, f0, f1, f2, f3, f4, f5, f6, f7, f8, f9, f10⟩ := HU.out.below b1
  have a1 := b1.mono (show B ≤ w.heap.size by omega)
  clear b1 HU
  go_wp2_with fail
  go_ret
  refine ⟨rfl, ⟨hB, by simpa using hl, by go_simp, by go_simp, by go_simp, by go_simp, by go_simp, by go_simp, by go_simp, by go_simp, by go_simp, by go_simp, by go_simp, by go_simp, by go_simp, by go_simp, by go_simp, by go_simp, by go_simp, by go_simp, by go_simp, by go_simp, by go_simp, by go_simp⟩, ?_⟩
  repeat (first | exact Below.refl _ _ | assumption | refine below_drewN ?_ _ | refine Below.drew ?_ | refine Below.setCell ?_ (by first | omega | (simp; done) | (simp; omega)) _ | refine Below.alloc ?_ (by first | omega | (simp; done) | (simp; omega)) _)
theorem rpart_any (i : Nat) (hi : i < 9) (hE : Env w) (ht : t.size ≤ 4096) (hu : Rn w B g r) :
    Calls Tryz.prog 29 #[.pointer (some ⟨g, 0, none⟩), .int .i64 (i : Int), .string t] w fun e w' => e = .returned (.int .i64 (Rl.step i t r).2) ∧ Rn w' B g (Rl.step i t r).1 ∧ Below B w w' := by
  have hi9 : i = 0 ∨ i = 1 ∨ i = 2 ∨ i = 3 ∨ i = 4 ∨ i = 5 ∨ i = 6 ∨ i = 7 ∨ i = 8 := by omega
  rcases hi9 with rfl | rfl | rfl | rfl | rfl | rfl | rfl | rfl | rfl
  · exact rpart0 B g t r w _ _ hE hu (Lib.hid fun W => readName_any t W (by omega))
  · exact rpart1 B g t r w _ _ hE hu (Lib.hid fun W hW => ryear_any t W hW ht)
  · exact rpart2 B g t r w _ _ hE hu (Lib.hid fun W hW => rto_any t r.fr W ht hW)
  · exact rpart3 B g t r w _ hE hu (Lib.hid fun W => rnone_any t W)
  · exact rpart4 B g t r w _ _ hE hu (Lib.hid fun W => rmonth_any t W (by omega))
  · show Calls Tryz.prog 29 #[.pointer (some ⟨g, 0, none⟩), .int .i64 5, .string t] w fun e w' => e = .returned (.int .i64 (Rl.step 5 t r).2) ∧ Rn w' B g (Rl.step 5 t r).1 ∧ Below B w w'
    cases hp : Dy.prs t with
    | none =>
      have e : Rl.step 5 t r = ({ r with k := 0, n := 0, d := 0 }, 4) := by unfold Rl.step; rw [hp]; rfl
      rw [e]
      exact rpart5 B g t r w _ _ _ _ hE hu (Lib.hid fun W hW => dparse_no t W hW.longest (by omega) hp)
    | some q =>
      obtain ⟨k, n, d⟩ := q
      have e : Rl.step 5 t r = ({ r with k := k, n := n, d := d }, 0) := by unfold Rl.step; rw [hp]; rfl
      rw [e]
      exact rpart5 B g t r w _ _ _ _ hE hu (Lib.hid fun W hW => dparse_yes t k n d W hW.longest (by omega) hp)
  · exact rpart6 B g t r w _ _ _ hE hu (Lib.hid fun W hW => mparse_any t W hW ht)
  · exact rpart7 B g t r w _ _ hE hu (Lib.hid fun W hW => rsave_any t W ht hW)
  · exact rpart8 B g t r w _ _ hE hu (Lib.hid fun W => rlett_any t W)
end
end Go.Proofs.YtigmbkcjmlpfoaaGreatDoor
