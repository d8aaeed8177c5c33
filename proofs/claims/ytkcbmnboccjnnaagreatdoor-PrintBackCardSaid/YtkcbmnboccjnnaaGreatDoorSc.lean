/- Contracts of package source: its closures, areEras, isRight, Check. -/
import Derived.Test.YtkcbmnboccjnnaaGreatDoorIx
import Derived.Shelf.Abstract
namespace Go.Proofs.YtkcbmnboccjnnaaGreatDoor
open Go.RowKit Go.Shelf
theorem enters_rule : ∀ args w, (callFunc 52 args).run Tryz.prog w = .ok (.enter 52 args) w := enters_of Tryz.func52 (by kernel_rfl) rfl
theorem enters_zone : ∀ args w, (callFunc 54 args).run Tryz.prog w = .ok (.enter 54 args) w := enters_of Tryz.func54 (by kernel_rfl) rfl
theorem enters_link : ∀ args w, (callFunc 57 args).run Tryz.prog w = .ok (.enter 57 args) w := enters_of Tryz.func57 (by kernel_rfl) rfl
theorem enters_era : ∀ args w, (callFunc 97 args).run Tryz.prog w = .ok (.enter 97 args) w := enters_of Tryz.func97 (by kernel_rfl) rfl
theorem enters_end : ∀ args w, (callFunc 99 args).run Tryz.prog w = .ok (.enter 99 args) w := enters_of Tryz.func99 (by kernel_rfl) rfl
theorem wrongRule_any (x : Ru) (w : World) (hs : x.nm.size ≤ 9223372036854775807) :
    Calls Tryz.prog 52 #[.agg #[.string x.nm, .int .i64 x.fr, .int .i64 x.tl, .int .i64 x.m, .int .u8 x.k, .int .i64 x.n, .int .i64 x.d, .int .i64 x.s, .int .u8 x.c, .int .i64 x.sv, .string x.lt]] w fun e w' => e = .returned (.bool (!Rl.right x)) ∧ Below w.heap.size w w' := by
  cases h : Rl.right x with
  | true =>
    have H := Lib.hid (fun W => rcheck_is x true W hs h)
    clear h
    go_enter Tryz.func52, Tryz.ntmps52
    go_wp2_with fail
    refine (H.out _).mono ?_
    rintro e w1 ⟨rfl, b1⟩
    go_wp2_with fail
    go_ret
    exact ⟨rfl, ((Below.refl _ _).alloc (Nat.le_refl _) _).trans (b1.mono (by simp))⟩
  | false =>
    have H := Lib.hid (fun W => rcheck_is x false W hs h)
    clear h
    go_enter Tryz.func52, Tryz.ntmps52
    go_wp2_with fail
    refine (H.out _).mono ?_
    rintro e w1 ⟨rfl, b1⟩
    go_wp2_with fail
    go_ret
    exact ⟨rfl, ((Below.refl _ _).alloc (Nat.le_refl _) _).trans (b1.mono (by simp))⟩
theorem wrongEra_any (x : Er) (w : World) (hE : Ev w) (hs : x.ru.size ≤ 9223372036854775807) :
    Calls Tryz.prog 97 #[.agg #[.int .i64 x.sd, .int .u8 x.k, .int .i64 x.sv, .string x.ru, .string x.fm, .bool x.en, .int .i64 x.u.y, .int .i64 x.u.m, .int .u8 x.u.k, .int .i64 x.u.n, .int .i64 x.u.d, .int .i64 x.u.s, .int .u8 x.u.c]] w fun e w' => e = .returned (.bool (!El.right x)) ∧ Below w.heap.size w w' := by
  cases h : El.right x with
  | true =>
    have H := Lib.hid (fun W (hE : Ev W) => echeck_is x true W hE hs h)
    have HE := Lib.hid (hE.below ((Below.refl _ _).alloc (Nat.le_refl _) (.cells #[.int .i64 x.sd, .int .u8 x.k, .int .i64 x.sv, .string x.ru, .string x.fm, .bool x.en, .int .i64 x.u.y, .int .i64 x.u.m, .int .u8 x.u.k, .int .i64 x.u.n, .int .i64 x.u.d, .int .i64 x.u.s, .int .u8 x.u.c] 65)))
    clear h hE
    go_enter Tryz.func97, Tryz.ntmps97
    go_wp2_with fail
    refine (H.out _ HE.out).mono ?_
    rintro e w1 ⟨rfl, b1⟩
    go_wp2_with fail
    go_ret
    exact ⟨rfl, ((Below.refl _ _).alloc (Nat.le_refl _) _).trans (b1.mono (by simp))⟩
  | false =>
    have H := Lib.hid (fun W (hE : Ev W) => echeck_is x false W hE hs h)
    have HE := Lib.hid (hE.below ((Below.refl _ _).alloc (Nat.le_refl _) (.cells #[.int .i64 x.sd, .int .u8 x.k, .int .i64 x.sv, .string x.ru, .string x.fm, .bool x.en, .int .i64 x.u.y, .int .i64 x.u.m, .int .u8 x.u.k, .int .i64 x.u.n, .int .i64 x.u.d, .int .i64 x.u.s, .int .u8 x.u.c] 65)))
    clear h hE
    go_enter Tryz.func97, Tryz.ntmps97
    go_wp2_with fail
    refine (H.out _ HE.out).mono ?_
    rintro e w1 ⟨rfl, b1⟩
    go_wp2_with fail
    go_ret
    exact ⟨rfl, ((Below.refl _ _).alloc (Nat.le_refl _) _).trans (b1.mono (by simp))⟩
theorem endless_any (x : Er) (w : World) :
    Calls Tryz.prog 99 #[.agg #[.int .i64 x.sd, .int .u8 x.k, .int .i64 x.sv, .string x.ru, .string x.fm, .bool x.en, .int .i64 x.u.y, .int .i64 x.u.m, .int .u8 x.u.k, .int .i64 x.u.n, .int .i64 x.u.d, .int .i64 x.u.s, .int .u8 x.u.c]] w fun e w' => e = .returned (.bool (!x.en)) ∧ Below w.heap.size w w' := by
  go_enter Tryz.func99, Tryz.ntmps99
  go_wp2_with fail
  go_ret
  exact ⟨rfl, (Below.refl _ _).alloc (Nat.le_refl _) _⟩
theorem fidx_ends : ∀ l : List Er, l ≠ [] → decide (fidx (fun e => !e.en) l = (l.length : Int) - 1) = So.ends l
  | [], h => absurd rfl h
  | e :: l, _ => by
    unfold So.ends fidx
    rw [List.length_cons]
    by_cases hl : l = []
    · subst hl
      rw [if_pos rfl]
      cases e.en <;> rfl
    · rw [if_neg hl]
      have ih := fidx_ends l hl
      have hg := fidx_ge (fun e : Er => !e.en) l
      have hp := List.length_pos_iff.2 hl
      cases e.en with
      | false =>
        rw [if_pos (show (!false) = true from rfl), Bool.false_and, decide_eq_false_iff_not]
        omega
      | true =>
        rw [if_neg (show ¬ (!true) = true by decide), Bool.true_and, ← ih, Bool.eq_iff_iff, decide_eq_true_eq, decide_eq_true_eq]
        split <;> omega
theorem all_not_any {α : Type} (p : α → Bool) (l : List α) : l.any (fun x => !p x) = !(l.all p) := by
  induction l with
  | nil => rfl
  | cons x l ih => rw [List.any_cons, List.all_cons, ih, Bool.not_and]
set_option maxRecDepth 100000 in
set_option maxHeartbeats 1000000 in
theorem areEras_any (A : Option Addr) (n c : Nat) (l : List Er) (w : World) (hE : Ev w) (hl : l.length = n) (hn : n ≤ 9223372036854775807) (hR : Rk w w.heap.size A (l.flatMap ecell)) (hs : ∀ e ∈ l, e.ru.size ≤ 9223372036854775807) :
    Calls Tryz.prog 56 #[.slice A n c] w fun e w' => e = .returned (.bool (So.eras l)) ∧ Below w.heap.size w w' := by
  by_cases h0 : n < 1
  · have hv : So.eras l = false := by
      unfold So.eras
      rw [show decide (1 ≤ l.length ∧ l.length ≤ 64) = false by rw [decide_eq_false_iff_not]; omega]
      rfl
    rw [hv]
    clear hv hR hs hE hl
    go_enter Tryz.func56, Tryz.ntmps56
    go_wp2_with fail
    go_ret
    exact ⟨rfl, Below.refl _ _⟩
  · by_cases h64 : 64 < n
    · have hv : So.eras l = false := by
        unfold So.eras
        rw [show decide (1 ≤ l.length ∧ l.length ≤ 64) = false by rw [decide_eq_false_iff_not]; omega]
        rfl
      rw [hv]
      clear hv hR hs hE hl
      go_enter Tryz.func56, Tryz.ntmps56
      go_wp2_with fail
      go_ret
      exact ⟨rfl, Below.refl _ _⟩
    · have hne : l ≠ [] := by
        rintro rfl
        have : n = 0 := hl.symm
        omega
      have hv : So.eras l = (l.all El.right && So.ends l) := by
        unfold So.eras
        rw [show decide (1 ≤ l.length ∧ l.length ≤ 64) = true by rw [decide_eq_true_eq]; omega]
        rfl
      have hen := fidx_ends l hne
      rw [hl] at hen
      have hg := fidx_ge (fun e : Er => !e.en) l
      rw [hl] at hg
      have H1 := Lib.hid (has_era 97 enters_era (fun e => !El.right e) A n c l w hl hn hR (fun x hx W hb => wrongEra_any x W (hE.below hb) (hs x hx)) (!(l.all El.right)) (all_not_any _ _))
      have H2 := Lib.hid (fun W (hb : Below w.heap.size w W) => idx_era 99 enters_end (fun e => !e.en) A n c l W hl hn (hR.on hb) (fun x _ W _ => endless_any x W))
      rw [hv, ← hen]
      clear hv hen hR hs hE hl hne
      generalize fidx (fun e : Er => !e.en) l = v at *
      cases hall : l.all El.right with
      | false =>
        rw [hall] at H1
        clear hall H2
        go_enter Tryz.func56, Tryz.ntmps56
        go_wp2_with fail
        refine H1.out.mono ?_
        rintro e w1 ⟨rfl, b1⟩
        go_wp2_with fail
        go_ret
        exact ⟨rfl, b1⟩
      | true =>
        rw [hall] at H1
        clear hall
        go_enter Tryz.func56, Tryz.ntmps56
        go_wp2_with fail
        refine H1.out.mono ?_
        rintro e w1 ⟨rfl, b1⟩
        go_wp2_with fail
        refine (H2.out _ b1).mono ?_
        rintro e w2 ⟨rfl, b2⟩
        have a2 := b1.trans (b2.mono b1.size)
        clear H1 H2 b1 b2
        go_wp2_with fail
        go_ret
        exact ⟨ret_bool (by rw [Bool.true_and, Bool.eq_iff_iff]; simp), a2⟩
theorem box_below (w : World) (o : Obj) : Below w.heap.size w (w.alloc o) := (Below.refl _ _).alloc (Nat.le_refl _) o
theorem wrongZone_any (x : Zd) (w : World) (hE : Ev w) (hs : x.nm.size ≤ 9223372036854775807) (hn : x.es.length ≤ 9223372036854775807) (hR : Rk w w.heap.size x.A (x.es.flatMap ecell)) (hz : ∀ e ∈ x.es, e.ru.size ≤ 9223372036854775807) :
    Calls Tryz.prog 54 #[.agg #[.string x.nm, .slice x.A x.es.length x.c]] w fun e w' => e = .returned (.bool (!So.zone x.zn)) ∧ Below w.heap.size w w' := by
  have hb := box_below w (.cells #[.string x.nm, .slice x.A x.es.length x.c] 52)
  have H2 := Lib.hid (areEras_any x.A x.es.length x.c x.es _ (hE.below hb) rfl hn (hR.on hb) hz)
  have H1 := Lib.hid (fun v (h : Rl.name x.nm.data.toList = v) W => rname_is x.nm v W hs h)
  have e0 : So.zone x.zn = (Rl.name x.nm.data.toList && So.eras x.es) := rfl
  rw [e0]
  have HB := Lib.hid hb
  clear hE hR hz e0 hb
  cases h : Rl.name x.nm.data.toList with
  | false =>
    have HN := Lib.hid h
    clear h H2
    go_enter Tryz.func54, Tryz.ntmps54
    go_wp2_with fail
    refine (H1.out _ HN.out _).mono ?_
    rintro e w' ⟨rfl, rfl⟩
    go_wp2_with fail
    go_ret
    exact ⟨rfl, HB.out⟩
  | true =>
    have HN := Lib.hid h
    clear h
    generalize So.eras x.es = v at *
    go_enter Tryz.func54, Tryz.ntmps54
    go_wp2_with fail
    refine (H1.out _ HN.out _).mono ?_
    rintro e w' ⟨rfl, rfl⟩
    go_wp2_with fail
    refine H2.out.mono ?_
    rintro e w2 ⟨rfl, b2⟩
    have a2 := HB.out.trans (b2.mono (by simp))
    clear H1 H2 b2
    go_wp2_with fail
    go_ret
    exact ⟨rfl, a2⟩
theorem wrongLink_any (x : Lk) (w : World) (hs : x.tg.size ≤ 9223372036854775807) (hn : x.nm.size ≤ 9223372036854775807) :
    Calls Tryz.prog 57 #[.agg #[.string x.tg, .string x.nm]] w fun e w' => e = .returned (.bool (!So.link x)) ∧ Below w.heap.size w w' := by
  have H1 := Lib.hid (fun v (h : Rl.name x.tg.data.toList = v) W => rname_is x.tg v W hs h)
  have H2 := Lib.hid (fun v (h : Rl.name x.nm.data.toList = v) W => rname_is x.nm v W hn h)
  have e0 : So.link x = (Rl.name x.tg.data.toList && Rl.name x.nm.data.toList) := rfl
  rw [e0]
  have HB := Lib.hid (box_below w (.cells #[.string x.tg, .string x.nm] 57))
  clear e0
  cases h : Rl.name x.tg.data.toList with
  | false =>
    have HN := Lib.hid h
    clear h H2
    go_enter Tryz.func57, Tryz.ntmps57
    go_wp2_with fail
    refine (H1.out _ HN.out _).mono ?_
    rintro e w' ⟨rfl, rfl⟩
    go_wp2_with fail
    go_ret
    exact ⟨rfl, HB.out⟩
  | true =>
    have HN := Lib.hid h
    clear h
    have H2 := Lib.hid (H2.out _ rfl)
    generalize Rl.name x.nm.data.toList = v at *
    go_enter Tryz.func57, Tryz.ntmps57
    go_wp2_with fail
    refine (H1.out _ HN.out _).mono ?_
    rintro e w' ⟨rfl, rfl⟩
    go_wp2_with fail
    refine (H2.out _).mono ?_
    rintro e w' ⟨rfl, rfl⟩
    go_wp2_with fail
    go_ret
    exact ⟨rfl, HB.out⟩
theorem all_zn (l : List Zd) : (l.map Zd.zn).all So.zone = l.all (fun z => So.zone z.zn) := by
  rw [List.all_map]
  rfl
set_option maxRecDepth 100000 in
set_option maxHeartbeats 2000000 in
theorem isRight_src (d : Sd) (w : World) (hE : Ev w) (hf : d.fits) (hd : d.at_ w w.heap.size) :
    Calls Tryz.prog 35 #[d.val] w fun e w' => e = .returned (.bool (So.right d.src)) ∧ Below w.heap.size w w' := by
  obtain ⟨rA, rc, rs, zA, zc, zs, lA, lc, ls⟩ := d
  obtain ⟨f1, f2, f3, f4, f5, f6⟩ := hf
  obtain ⟨d1, d2, d3, d4⟩ := hd
  simp only at f1 f2 f3 f4 f5 f6 d1 d2 d3 d4
  have e0 : So.right (Sd.src ⟨rA, rc, rs, zA, zc, zs, lA, lc, ls⟩) = (decide (rs.length ≤ 4096 ∧ zs.length ≤ 1024 ∧ ls.length ≤ 4096) && (rs.all Rl.right && (zs.all (fun z => So.zone z.zn) && ls.all So.link))) := by
    rw [← all_zn]
    show (decide (rs.length ≤ 4096 ∧ (zs.map Zd.zn).length ≤ 1024 ∧ ls.length ≤ 4096) && _) = _
    rw [List.length_map]
    rfl
  rw [e0]
  show Calls Tryz.prog 35 #[.agg #[.slice rA rs.length rc, .slice zA zs.length zc, .slice lA ls.length lc]] w fun e w' => e = .returned (.bool (decide (rs.length ≤ 4096 ∧ zs.length ≤ 1024 ∧ ls.length ≤ 4096) && (rs.all Rl.right && (zs.all (fun z => So.zone z.zn) && ls.all So.link)))) ∧ Below w.heap.size w w'
  have hb := box_below w (.cells #[.slice rA rs.length rc, .slice zA zs.length zc, .slice lA ls.length lc] 27)
  have H1 := Lib.hid (fun v hv => has_rule 52 enters_rule (fun x => !Rl.right x) rA rs.length rc rs _ rfl f1 (d1.on hb) (fun x hx W _ => wrongRule_any x W (f4 x hx).1) v hv)
  have H2 := Lib.hid (fun W (hW : Below w.heap.size w W) v hv => has_zone 54 enters_zone (fun x => !So.zone x.zn) zA zs.length zc zs W rfl f2 (d2.on hW) (fun x hx W' hb' => by
    have hW' := hW.trans (hb'.mono hW.size)
    exact wrongZone_any x W' (hE.below hW') (f5 x hx).1 (f5 x hx).2.1 ((d3 x hx).on hW') (fun e he => ((f5 x hx).2.2 e he).1)) v hv)
  have H3 := Lib.hid (fun W (hW : Below w.heap.size w W) v hv => has_link 57 enters_link (fun x => !So.link x) lA ls.length lc ls W rfl f3 (d4.on hW) (fun x hx W' _ => wrongLink_any x W' (f6 x hx).1 (f6 x hx).2) v hv)
  have HB := Lib.hid hb
  clear e0 hb d1 d2 d3 d4 f4 f5 f6 hE
  have v1 := all_not_any Rl.right rs
  have v2 := all_not_any (fun z : Zd => So.zone z.zn) zs
  have v3 := all_not_any So.link ls
  have H1 := Lib.hid (H1.out _ v1)
  have H2 := Lib.hid (fun W hW => H2.out W hW _ v2)
  have H3 := Lib.hid (fun W hW => H3.out W hW _ v3)
  clear v1 v2 v3
  generalize rs.all Rl.right = q1 at *
  generalize zs.all (fun z => So.zone z.zn) = q2 at *
  generalize ls.all So.link = q3 at *
  by_cases hlen : rs.length ≤ 4096 ∧ zs.length ≤ 1024 ∧ ls.length ≤ 4096
  · rw [decide_eq_true hlen, Bool.true_and]
    obtain ⟨l1, l2, l3⟩ := hlen
    generalize rs.length = n1 at *
    generalize zs.length = n2 at *
    generalize ls.length = n3 at *
    cases q1 with
    | false =>
      clear H2 H3
      go_enter Tryz.func35, Tryz.ntmps35
      go_wp2_with fail
      refine H1.out.mono ?_
      rintro e w1 ⟨rfl, b1⟩
      have a1 := HB.out.trans (b1.mono (by simp))
      clear b1 H1 HB
      go_wp2_with fail
      go_ret
      exact ⟨rfl, a1⟩
    | true =>
      cases q2 with
      | false =>
        clear H3
        go_enter Tryz.func35, Tryz.ntmps35
        go_wp2_with fail
        refine H1.out.mono ?_
        rintro e w1 ⟨rfl, b1⟩
        have a1 := HB.out.trans (b1.mono (by simp))
        obtain ⟨hc, _⟩ := bcell b1
        clear b1 H1 HB
        go_wp2_with fail
        refine (H2.out _ a1).mono ?_
        rintro e w2 ⟨rfl, b2⟩
        have a2 := a1.trans (b2.mono a1.size)
        clear a1 b2 H2
        go_wp2_with fail
        go_ret
        exact ⟨rfl, a2⟩
      | true =>
        go_enter Tryz.func35, Tryz.ntmps35
        go_wp2_with fail
        refine H1.out.mono ?_
        rintro e w1 ⟨rfl, b1⟩
        have a1 := HB.out.trans (b1.mono (by simp))
        have z1 : w.heap.size < w1.heap.size := by have := b1.size; simp at this; omega
        obtain ⟨hc, _⟩ := bcell b1
        clear b1 H1 HB
        go_wp2_with fail
        refine (H2.out _ a1).mono ?_
        rintro e w2 ⟨rfl, b2⟩
        have a2 := a1.trans (b2.mono a1.size)
        obtain ⟨hc2, _⟩ := bcell b2
        clear a1 b2 H2
        go_wp2_with fail
        refine (H3.out _ a2).mono ?_
        rintro e w3 ⟨rfl, b3⟩
        have a3 := a2.trans (b3.mono a2.size)
        clear a2 b3 H3
        go_wp2_with fail
        go_ret
        exact ⟨rfl, a3⟩
  · rw [decide_eq_false hlen, Bool.false_and]
    clear H1 H2 H3
    generalize rs.length = n1 at *
    generalize zs.length = n2 at *
    generalize ls.length = n3 at *
    by_cases l1 : 4096 < n1
    · clear hlen
      go_enter Tryz.func35, Tryz.ntmps35
      go_wp2_with fail
      go_ret
      exact ⟨rfl, HB.out⟩
    · by_cases l2 : 1024 < n2
      · clear hlen
        go_enter Tryz.func35, Tryz.ntmps35
        go_wp2_with fail
        go_ret
        exact ⟨rfl, HB.out⟩
      · have l3 : 4096 < n3 := by omega
        clear hlen
        go_enter Tryz.func35, Tryz.ntmps35
        go_wp2_with fail
        go_ret
        exact ⟨rfl, HB.out⟩
set_option maxHeartbeats 1000000 in
theorem scheck_any (d : Sd) (w : World) (hE : Ev w) (hf : d.fits) (hd : d.at_ w w.heap.size) (v : Bool) (hv : So.right d.src = v) :
    Calls Tryz.prog 11 #[d.val] w fun e w' => e = .returned (.int .i64 (if v = true then 0 else 2)) ∧ Below w.heap.size w w' := by
  have hb := box_below w (.cells #[.slice d.rA d.rs.length d.rc, .slice d.zA d.zs.length d.zc, .slice d.lA d.ls.length d.lc] 27)
  have H := Lib.hid (isRight_src d _ (hE.below hb) hf (hd.on hb))
  rw [hv] at H
  have HB := Lib.hid hb
  clear hb hv hd hf hE
  cases v with
  | false =>
    go_enter Tryz.func11, Tryz.ntmps11
    go_wp2_with fail
    refine H.out.mono ?_
    rintro e w1 ⟨rfl, b1⟩
    have a1 := HB.out.trans (b1.mono (by simp))
    clear b1 H HB
    go_wp2_with fail
    go_ret
    exact ⟨rfl, a1⟩
  | true =>
    go_enter Tryz.func11, Tryz.ntmps11
    go_wp2_with fail
    refine H.out.mono ?_
    rintro e w1 ⟨rfl, b1⟩
    have a1 := HB.out.trans (b1.mono (by simp))
    clear b1 H HB
    go_wp2_with fail
    go_ret
    exact ⟨rfl, a1⟩
end Go.Proofs.YtkcbmnboccjnnaaGreatDoor
