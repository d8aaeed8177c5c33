/- Contract of package source: Parse. -/
import Derived.Test.YtkcbmnboccjnnaaGreatDoorRdE
import Derived.Test.YtkcbmnboccjnnaaGreatDoorSr
namespace Go.Proofs.YtkcbmnboccjnnaaGreatDoor
open Go.RowKit Go.Shelf
/-- How many fields a line has, and how long they are. -/
def smallOk (M : Nat) : CRes → Prop
  | .inl r => r.length ≤ 24 ∧ ∀ f ∈ r, f.1.length ≤ M
  | .inr _ => True
theorem scut_small (M : Nat) : ∀ (l : List UInt8) (st : CSt) (fs : List (List UInt8 × Nat)) (i : Nat), (∀ f ∈ fs, f.1.length ≤ M) → (match st with | none => fs.length ≤ 24 ∧ l.length ≤ M | some p => fs.length + 1 ≤ 24 ∧ p.1.length + l.length ≤ M) → smallOk M (cutL l st fs i)
  | [], none, fs, i, h, hs => by
    unfold cutL
    exact ⟨hs.1, h⟩
  | [], some (t, b, none), fs, i, h, hs => by
    unfold cutL
    refine ⟨by rw [List.length_append]; exact hs.1, fun f hf => ?_⟩
    rcases List.mem_append.1 hf with hf | hf
    · exact h f hf
    · obtain rfl : f = (t, b + 1) := by simpa using hf
      exact hs.2
  | [], some (t, b, some q), fs, i, h, hs => by
    unfold cutL
    trivial
  | c :: l, none, fs, i, h, hs => by
    obtain ⟨h1, h2⟩ := hs
    rw [List.length_cons] at h2
    unfold cutL
    split
    · exact scut_small M l none fs _ h ⟨h1, by omega⟩
    · split
      · trivial
      · split
        · exact ⟨h1, h⟩
        · split
          · trivial
          · rename_i h24
            split
            · exact scut_small M l (some ([c], i, none)) fs _ h ⟨by omega, by show 1 + l.length ≤ M; omega⟩
            · exact scut_small M l (some ([], i, some i)) fs _ h ⟨by omega, by show 0 + l.length ≤ M; omega⟩
  | c :: l, some (t, b, none), fs, i, h, hs => by
    obtain ⟨h1, h2⟩ := hs
    rw [List.length_cons] at h2
    have h2 : t.length + (l.length + 1) ≤ M := h2
    have h3 : ∀ f ∈ fs ++ [(t, b + 1)], f.1.length ≤ M := fun f hf => by
      rcases List.mem_append.1 hf with hf | hf
      · exact h f hf
      · obtain rfl : f = (t, b + 1) := by simpa using hf
        show t.length ≤ M
        omega
    have h4 : (fs ++ [(t, b + 1)]).length ≤ 24 := by rw [List.length_append]; exact h1
    unfold cutL
    split
    · exact scut_small M l (some (t ++ [c], b, none)) fs _ h ⟨h1, by show (t ++ [c]).length + l.length ≤ M; rw [List.length_append, List.length_singleton]; omega⟩
    · split
      · exact scut_small M l (some (t, b, some i)) fs _ h ⟨h1, by show t.length + l.length ≤ M; omega⟩
      · split
        · exact scut_small M l none _ _ h3 ⟨h4, by omega⟩
        · split
          · trivial
          · exact ⟨h4, h3⟩
  | c :: l, some (t, b, some q), fs, i, h, hs => by
    obtain ⟨h1, h2⟩ := hs
    rw [List.length_cons] at h2
    have h2 : t.length + (l.length + 1) ≤ M := h2
    unfold cutL
    split
    · trivial
    · split
      · exact scut_small M l (some (t, b, none)) fs _ h ⟨h1, by show t.length + l.length ≤ M; omega⟩
      · exact scut_small M l (some (t ++ [c], b, some q)) fs _ h ⟨h1, by show (t ++ [c]).length + l.length ≤ M; rw [List.length_append, List.length_singleton]; omega⟩
theorem fld_small (l : List UInt8) : smallOk 2048 (Ln.fld l) := by
  unfold Ln.fld
  split
  · trivial
  · exact scut_small 2048 l none [] 0 (fun _ h => by cases h) ⟨Nat.zero_le _, by omega⟩
/-- What holds of a scanned line's fields. -/
structure LnD.few (l : LnD) : Prop where
  no : 1 ≤ l.1
  some_ : l.2 ≠ []
  most : l.2.length ≤ 24
  small : ∀ f ∈ l.2, f.1.length ≤ 2048
theorem scan_few : ∀ (ls : List (List UInt8)) (i : Nat) (r : List LnD), 1 ≤ i → Ln.scan i ls = .inl r → ∀ l ∈ r, l.few
  | [], i, r, _, h => by
    injection h with h
    subst h
    intro l hl
    cases hl
  | l :: ls, i, r, hi, h => by
    cases hf : Ln.fld l with
    | inr p => rw [lscan_wrong hf] at h; cases h
    | inl fs =>
      have hs := fld_small l
      rw [hf] at hs
      by_cases hn : fs = []
      · subst hn
        rw [lscan_none hf] at h
        exact scan_few ls (i + 1) r (by omega) h
      · rw [lscan_some hf hn] at h
        cases hr : Ln.scan (i + 1) ls with
        | inr f => rw [hr] at h; cases h
        | inl r' =>
          rw [hr] at h
          injection h with h
          subst h
          have ih := scan_few ls (i + 1) r' (by omega) hr
          intro x hx
          rcases List.mem_append.1 hx with hx | hx
          · obtain rfl : x = (i, fs) := by simpa using hx
            exact ⟨hi, hn, hs.1, hs.2⟩
          · exact ih x hx
theorem few_texts {l : LnD} (h : l.few) : ∀ t ∈ l.texts, t.size ≤ 2048 := by
  intro t ht
  unfold LnD.texts at ht
  obtain ⟨f, hf, rfl⟩ := List.mem_map.1 ht
  rw [size_ba]
  exact h.small f hf
/-- What Parse answers, and what lies in memory then. -/
def ParseE (R : QRes) (e : Ending) (w : World) : Prop := match R with
  | .inr f => e = .returned (.tuple #[.agg #[.slice none 0 0, .slice none 0 0, .slice none 0 0], .agg #[.int .i64 (f.1 : Int), .int .i64 (f.2.1 : Int), .int .i64 f.2.2]])
  | .inl x => ∃ d : Sd, d.src = x ∧ d.fits ∧ d.at_ w w.heap.size ∧ e = .returned (.tuple #[d.val, .agg #[.int .i64 0, .int .i64 0, .int .i64 0]])
theorem prs_all (l : List UInt8) : So.prs l = match Ln.all l with
    | .inr f => .inr (f.1, f.2.1, (f.2.2 : Int))
    | .inl ls => So.done ls (So.run St.zero ls) := by
  unfold So.prs Ln.all
  split
  · rfl
  · rfl
theorem lall_why {l : List UInt8} {f : Nat × Nat × Nat} (h : Ln.all l = .inr f) : f.2.2 ≠ 0 := by
  unfold Ln.all at h
  split at h
  · injection h with h
    subst h
    decide
  · have := scan_lines (Ln.cut l) 1 (by omega)
    rw [h] at this
    exact this.2.2
theorem scan_len : ∀ (ls : List (List UInt8)) (i : Nat) (r : List LnD), Ln.scan i ls = .inl r → r.length ≤ ls.length
  | [], i, r, h => by
    injection h with h
    subst h
    exact Nat.le_refl _
  | l :: ls, i, r, h => by
    cases hf : Ln.fld l with
    | inr p => rw [lscan_wrong hf] at h; cases h
    | inl fs =>
      by_cases hn : fs = []
      · subst hn
        rw [lscan_none hf] at h
        have := scan_len ls _ r h
        rw [List.length_cons]
        omega
      · rw [lscan_some hf hn] at h
        cases hr : Ln.scan (i + 1) ls with
        | inr f => rw [hr] at h; cases h
        | inl r' =>
          rw [hr] at h
          injection h with h
          subst h
          have := scan_len ls _ r' hr
          show ([(i, fs)] ++ r').length ≤ _
          rw [List.length_append, List.length_cons]
          simp
          omega
theorem lall_len {l : List UInt8} {ls : List LnD} (h : Ln.all l = .inl ls) : ls.length ≤ 1048577 := by
  unfold Ln.all at h
  split at h
  · cases h
  · have h1 := scan_len _ _ _ h
    rw [lcut_len] at h1
    have h2 : Ln.lfs l ≤ l.length := List.length_filter_le _ _
    omega
theorem lall_few {l : List UInt8} {ls : List LnD} (h : Ln.all l = .inl ls) : ∀ x ∈ ls, x.few := by
  unfold Ln.all at h
  split at h
  · cases h
  · exact scan_few _ 1 ls (by omega) h
theorem good_fits {s : St} (hg : s.good) {d : Sd} (hr : d.rs = s.rs) (hz : d.zs.map Zd.zn = s.zs) (hl : d.ls = s.ls) : d.fits := by
  have hnz := hg.nz
  have hzl : d.zs.length = s.zs.length := by rw [← hz, List.length_map]
  refine ⟨by rw [hr]; have := hg.nr; omega, by omega, by rw [hl]; have := hg.nl; omega, ?_, ?_, ?_⟩
  · intro r h
    rw [hr] at h
    obtain ⟨h1, _, _, _, _, _, h7⟩ := rl_parts (hg.r r h).1
    have := name_le h1
    have := ltr_le h7
    exact ⟨by omega, by omega⟩
  · intro z h
    have hm : z.zn ∈ s.zs := by rw [← hz]; exact List.mem_map.2 ⟨z, h, rfl⟩
    obtain ⟨h1, ⟨_, h2⟩, h3, _⟩ := zone_parts (hg.z z.zn hm).1
    have := name_le h1
    have h2 : z.es.length ≤ 64 := h2
    have hnm : z.zn.nm = z.nm := rfl
    rw [hnm] at this
    refine ⟨by omega, by omega, fun e he => ?_⟩
    have he' := h3 e he
    have := eru_le he'
    have := fmt_le (el_parts he').2.2.1
    exact ⟨by omega, by omega⟩
  · intro k h
    rw [hl] at h
    obtain ⟨h1, h2⟩ := link_parts (hg.l k h)
    have := name_le h1
    have := name_le h2
    exact ⟨by omega, by omega⟩
theorem rdr_start (w : World) : Rdr (w.alloc (.cells #[.slice none 0 0, .slice none 0 0, .slice none 0 0, .bool false] 71)) w.heap.size w.heap.size St.zero :=
  ⟨w.heap.size, .slice none 0 0, .slice none 0 0, .slice none 0 0, [], none, Nat.le_refl _, Nat.le_refl _, by simp, heap_alloc_new _ _, World.ownsRow_nil _ _ _ _, World.ownsRow_nil _ _ _ _, World.ownsRow_nil _ _ _ _, rfl, rfl, (fun _ h => by cases h), (fun _ h => by cases h), (fun _ h => by cases h)⟩
set_option maxRecDepth 100000 in
set_option maxHeartbeats 2000000 in
theorem sparse_no (S : ByteArray) (w : World) (hs : S.size ≤ 9223372036854775807) (hE : Ev w) (f : Nat × Nat × Nat) (h : Ln.all S.data.toList = .inr f) :
    Calls Tryz.prog 9 #[.string S] w fun e w' => ParseE (So.prs S.data.toList) e w' ∧ Below w.heap.size w w' := by
  have hp : So.prs S.data.toList = .inr (f.1, f.2.1, (f.2.2 : Int)) := by rw [prs_all, h]
  have hz := lall_why h
  have hb := (box_below w (.cells #[.slice none 0 0, .slice none 0 0, .slice none 0 0] 27)).alloc (by simp) (.cells #[.int .i64 0, .int .i64 0, .int .i64 0] 30)
  have H := slines_any S hs _ (hE.below hb).env
  rw [h] at H
  have HC := Lib.hid H
  have HB := Lib.hid hb
  have HP := Lib.hid hp
  obtain ⟨f1, f2, f3⟩ := f
  have tz : (((f3 : Nat) : Int) != 0) = true := by rw [bne_iff_ne]; simp only at hz; omega
  clear H hE hb hp h hz
  go_enter Tryz.func9, Tryz.ntmps9
  go_wp2_with fail
  refine HC.out.mono ?_
  rintro e w3 ⟨hL, b3⟩
  change e = _ at hL
  subst hL
  have hbx := box_below w3 (.cells #[.int .i64 (f1 : Int), .int .i64 (f2 : Int), .int .i64 (f3 : Int)] 30)
  have b4 := b3.trans (hbx.mono b3.size)
  obtain ⟨hc, hf⟩ := bcell b4
  have l0 : w.heap.size < ((w.alloc (.cells #[.slice none 0 0, .slice none 0 0, .slice none 0 0] 27)).alloc (.cells #[.int .i64 0, .int .i64 0, .int .i64 0] 30)).heap.size := by simp; omega
  have l1 : w.heap.size + 1 < ((w.alloc (.cells #[.slice none 0 0, .slice none 0 0, .slice none 0 0] 27)).alloc (.cells #[.int .i64 0, .int .i64 0, .int .i64 0] 30)).heap.size := by simp
  have s0 := (hc _ 0 l0).trans (show _ = some (Value.slice none 0 0) by go_simp)
  have s1 := (hc _ 1 l0).trans (show _ = some (Value.slice none 0 0) by go_simp)
  have s2 := (hc _ 2 l0).trans (show _ = some (Value.slice none 0 0) by go_simp)
  have u0 := (hc _ 0 l1).trans (show _ = some (Value.int .i64 0) by go_simp)
  have u1 := (hc _ 1 l1).trans (show _ = some (Value.int .i64 0) by go_simp)
  have u2 := (hc _ 2 l1).trans (show _ = some (Value.int .i64 0) by go_simp)
  have p0 := (hf _ 0 l0).trans (show _ = false by go_simp)
  have p1 := (hf _ 1 l0).trans (show _ = false by go_simp)
  have p2 := (hf _ 2 l0).trans (show _ = false by go_simp)
  have v0 := (hf _ 0 l1).trans (show _ = false by go_simp)
  have v1 := (hf _ 1 l1).trans (show _ = false by go_simp)
  have v2 := (hf _ 2 l1).trans (show _ = false by go_simp)
  have Bb := Bx.mk' w3 w3.heap.size #[.int .i64 (f1 : Int), .int .i64 (f2 : Int), .int .i64 (f3 : Int)] 30 rfl
  have x0 : _ = some (Value.int .i64 (f1 : Int)) := Bb.at_ 0 _ rfl
  have x1 : _ = some (Value.int .i64 (f2 : Int)) := Bb.at_ 1 _ rfl
  have x2 : _ = some (Value.int .i64 (f3 : Int)) := Bb.at_ 2 _ rfl
  have n1 : w.heap.size + 1 < w3.heap.size := by have := b3.size; simp at this; omega
  have n2 : w.heap.size ≠ w3.heap.size := by omega
  have n3 : w.heap.size + 1 ≠ w3.heap.size := by omega
  have a4 := Lib.hid (HB.out.trans (b4.mono (by simp; omega)))
  clear b3 b4 hbx hc hf l0 l1 Bb HC HB n1
  go_wp2_with fail
  generalize w3.heap.size = G at *
  generalize w3.alloc (.cells #[.int .i64 (f1 : Int), .int .i64 (f2 : Int), .int .i64 (f3 : Int)] 30) = w4 at *
  go_region
  all_goals
    go_wp2_with fail
    refine bodyPost_ret (v := .tuple #[.agg #[.slice none 0 0, .slice none 0 0, .slice none 0 0], .agg #[.int .i64 (f1 : Int), .int .i64 (f2 : Int), .int .i64 (f3 : Int)]]) (by simp [results, Tryz.results9, go_sem, s0, s1, s2, u0, u1, u2]) rfl ⟨?_, ?_⟩
    · rw [HP.out]
      rfl
    · exact ((((((a4.out.setCell (Nat.le_refl _) _).setCell (Nat.le_refl _) _).setCell (Nat.le_refl _) _).setCell (Nat.le_succ _) _).setCell (Nat.le_succ _) _).setCell (Nat.le_succ _) _).drew
/-- The two results of Parse, untouched yet. -/
structure Rs2 (W : World) (b : Nat) : Prop where
  s0 : W.cell? ⟨b, 0, none⟩ = some (.slice none 0 0)
  s1 : W.cell? ⟨b, 1, none⟩ = some (.slice none 0 0)
  s2 : W.cell? ⟨b, 2, none⟩ = some (.slice none 0 0)
  u0 : W.cell? ⟨b + 1, 0, none⟩ = some (.int .i64 0)
  u1 : W.cell? ⟨b + 1, 1, none⟩ = some (.int .i64 0)
  u2 : W.cell? ⟨b + 1, 2, none⟩ = some (.int .i64 0)
  p0 : W.frozen? ⟨b, 0, none⟩ = false
  p1 : W.frozen? ⟨b, 1, none⟩ = false
  p2 : W.frozen? ⟨b, 2, none⟩ = false
  v0 : W.frozen? ⟨b + 1, 0, none⟩ = false
  v1 : W.frozen? ⟨b + 1, 1, none⟩ = false
  v2 : W.frozen? ⟨b + 1, 2, none⟩ = false
theorem Rs2.on {W W' : World} {b B : Nat} (h : Rs2 W b) (hb : Below B W W') (hB : b + 1 < B) : Rs2 W' b := by
  have l0 : b < B := by omega
  exact ⟨(hb.cell (p := ⟨b, 0, none⟩) l0).trans h.s0, (hb.cell (p := ⟨b, 1, none⟩) l0).trans h.s1, (hb.cell (p := ⟨b, 2, none⟩) l0).trans h.s2, (hb.cell (p := ⟨b + 1, 0, none⟩) hB).trans h.u0, (hb.cell (p := ⟨b + 1, 1, none⟩) hB).trans h.u1, (hb.cell (p := ⟨b + 1, 2, none⟩) hB).trans h.u2,
    (hb.frozen (p := ⟨b, 0, none⟩) l0).trans h.p0, (hb.frozen (p := ⟨b, 1, none⟩) l0).trans h.p1, (hb.frozen (p := ⟨b, 2, none⟩) l0).trans h.p2, (hb.frozen (p := ⟨b + 1, 0, none⟩) hB).trans h.v0, (hb.frozen (p := ⟨b + 1, 1, none⟩) hB).trans h.v1, (hb.frozen (p := ⟨b + 1, 2, none⟩) hB).trans h.v2⟩
theorem rs2_new (w : World) : Rs2 ((w.alloc (.cells #[.slice none 0 0, .slice none 0 0, .slice none 0 0] 27)).alloc (.cells #[.int .i64 0, .int .i64 0, .int .i64 0] 30)) w.heap.size :=
  ⟨by go_simp, by go_simp, by go_simp, by go_simp, by go_simp, by go_simp, by go_simp, by go_simp, by go_simp, by go_simp, by go_simp, by go_simp⟩
theorem rdr_on {W W' : World} {B g : Nat} {s : St} (h : Rdr W B g s) (hb : Below W.heap.size W W') : Rdr W' B g s := by
  obtain ⟨a, b, c, d, e, f, R⟩ := h
  exact ⟨a, b, c, d, e, f, R.on hb⟩
set_option maxRecDepth 100000 in
set_option maxHeartbeats 8000000 in
theorem sparse_yes (S : ByteArray) (w : World) (hs : S.size ≤ 9223372036854775807) (hE : Ev w) (ls : List LnD) (h : Ln.all S.data.toList = .inl ls) :
    Calls Tryz.prog 9 #[.string S] w fun e w' => ParseE (So.prs S.data.toList) e w' ∧ Below w.heap.size w w' := by
  have hp : So.prs S.data.toList = So.done ls (So.run St.zero ls) := by rw [prs_all, h]
  have hfew := lall_few h
  have hlen := lall_len h
  have hb := (box_below w (.cells #[.slice none 0 0, .slice none 0 0, .slice none 0 0] 27)).alloc (by simp) (.cells #[.int .i64 0, .int .i64 0, .int .i64 0] 30)
  have H := slines_any S hs _ (hE.below hb).env
  rw [h] at H
  rw [hp]
  have HC := Lib.hid H
  have HB := Lib.hid hb
  have HFW := Lib.hid hfew
  have HEv := Lib.hid (hE.below hb)
  have hr2 := rs2_new w
  have HR2 := Lib.hid hr2
  clear H hE hb hp h hfew hr2
  go_enter Tryz.func9, Tryz.ntmps9
  go_wp2_with fail
  refine HC.out.mono ?_
  rintro e w3 ⟨hL, b3⟩
  obtain ⟨A, c, L, rfl, hLs, hRk, hRf⟩ := hL
  have hz3 : w.heap.size + 2 ≤ w3.heap.size := by have := b3.size; simp at this; omega
  have hbx := ((box_below w3 (.cells #[.int .i64 0, .int .i64 0, .int .i64 0] 30)).alloc (by simp) (.cells #[.slice none 0 0, .slice none 0 0, .slice none 0 0, .bool false] 71))
  have HR5 := Lib.hid ((HR2.out.on b3 (by simp)).on hbx (by omega))
  have HE5 : Hid (∀ W, Below w3.heap.size w3 W → Ev W) := Lib.hid (fun W hb => (HEv.out.below b3).below hb)
  have HBX := Lib.hid hbx
  have HB5 := Lib.hid ((HB.out.trans (b3.mono (by simp; omega))).trans (hbx.mono (by omega)))
  have HRK := Lib.hid (hRk.below hbx)
  have HRF := Lib.hid (fun d hd => (hRf d hd).below hbx)
  have hrd := rdr_start (w3.alloc (.cells #[.int .i64 0, .int .i64 0, .int .i64 0] 30))
  have hG : (w3.alloc (.cells #[.int .i64 0, .int .i64 0, .int .i64 0] 30)).heap.size = w3.heap.size + 1 := by simp
  rw [hG] at hrd
  have HRD := Lib.hid hrd
  have HLS := Lib.hid hLs
  have hz5 : ((w3.alloc (.cells #[.int .i64 0, .int .i64 0, .int .i64 0] 30)).alloc (.cells #[.slice none 0 0, .slice none 0 0, .slice none 0 0, .bool false] 71)).heap.size = w3.heap.size + 2 := by simp
  clear b3 hbx hRk hRf hrd hG hLs HC HR2 HB HEv
  go_wp2_with fail
  generalize hw5 : (w3.alloc (.cells #[.int .i64 0, .int .i64 0, .int .i64 0] 30)).alloc (.cells #[.slice none 0 0, .slice none 0 0, .slice none 0 0, .bool false] 71) = w5 at *
  clear hw5
  generalize hg3 : w3.heap.size = g3 at *
  clear hg3
  have hn : L.length ≤ 1048577 := by have := congrArg List.length HLS.out; rw [List.length_map] at this; omega
  have hz5g : w5.heap.size = g3 + 2 := hz5
  go_loopw [23] (fun i wr => ∃ (k : Nat) (s : St), k ≤ L.length ∧ i = .int .i64 k ∧ Hid (Rdr wr (g3 + 1) (g3 + 1) s) ∧ Hid s.good ∧ Hid (So.run St.zero ls = So.run s (ls.drop k)) ∧ Below (g3 + 1) w5 wr) (fun i _ => L.length - (intOf i).toNat)
  case atStart => exact ⟨0, St.zero, Nat.zero_le _, rfl, HRD, Lib.hid good_zero, Lib.hid rfl, Below.refl _ _⟩
  case round =>
    obtain ⟨k, s, hk, rfl, hR, hS, hG, hbw⟩ := hrel
    have hszr := hbw.size
    have hbw3 : Below g3 w5 wr := hbw.mono (Nat.le_succ _)
    by_cases hlt : k < L.length
    · obtain ⟨x, hx⟩ : ∃ x, L[k]? = some x := ⟨_, List.getElem?_eq_getElem hlt⟩
      have hmem := List.mem_of_getElem? hx
      obtain ⟨b, o, rfl, hbl, hc⟩ := (HRK.out.below hbw3).at_ lncell_len (by decide) hx
      have c0 : wr.cell? ⟨b, o + k * 2, none⟩ = some (Value.int .i64 (x.no : Int)) := hc 0 _ rfl
      have c1 : wr.cell? ⟨b, o + k * 2 + 1, none⟩ = some (Value.slice x.A x.fs.length x.c) := hc 1 _ rfl
      have hxm : x.ln ∈ ls := by rw [← HLS.out]; exact List.mem_map.2 ⟨x, hmem, rfl⟩
      have hfx := HFW.out x.ln hxm
      have hdrop : ls.drop k = x.ln :: ls.drop (k + 1) := by
        have hkl : k < ls.length := by rw [← HLS.out, List.length_map]; exact hlt
        rw [List.drop_eq_getElem_cons hkl]
        congr 1
        have : ls[k]? = some x.ln := by rw [← HLS.out, List.getElem?_map, hx]; rfl
        rw [List.getElem?_eq_getElem hkl] at this
        injection this
      have hf24 : x.fs.length ≤ 24 := hfx.most
      have hf1 : 1 ≤ x.fs.length := List.length_pos_iff.2 hfx.some_
      have hrx := (HRF.out x hmem).below hbw3
      have hbq := box_below wr (.cells #[.int .i64 (x.no : Int), .slice x.A x.fs.length x.c] 74)
      have HT := Lib.hid (stexts_any x _ (by omega) ((hrx.more (by omega)).on hbq))
      have HRX := Lib.hid hrx
      have HFX := Lib.hid hfx
      have HDR := Lib.hid hdrop
      have HBQ := Lib.hid hbq
      have Bb := Lib.hid (Bx.mk' wr wr.heap.size #[.int .i64 (x.no : Int), .slice x.A x.fs.length x.c] 74 rfl)
      clear hc hx hmem hxm hfx hdrop hrx hbq
      go_wp2_with fail
      refine HT.out.mono ?_
      rintro e w7 ⟨⟨gt, rfl, hgt⟩, b7⟩
      have b7w := HBQ.out.trans (b7.mono (by simp))
      have hz7 : wr.heap.size < w7.heap.size := by have := b7.size; simp at this; omega
      have HRD7 := Lib.hid (sread_any (g3 + 1) (g3 + 1) gt x.fs.length s x.ln.texts w7 (HE5.out _ ((HBX.out.trans hbw3).trans (b7w.mono (by omega)))) (rdr_on hR.out b7w) hS.out hgt (texts_len _) hf1 hf24 (few_texts HFX.out))
      have Bb7 := Lib.hid (Bb.out.on b7)
      have HB7 := Lib.hid b7w
      clear HT hgt b7 b7w c0 c1 Bb
      go_wp2_with fail
      refine HRD7.out.mono ?_
      rintro e w8 ⟨hRE, hRB⟩
      cases hRD : So.rd s x.ln.texts with
      | inl s' =>
        rw [hRD] at hRE hRB
        obtain ⟨rfl, hrd8⟩ := hRE
        have HR8 := Lib.hid hrd8
        have HS8 := Lib.hid (rd_good hRD hS.out)
        have HG8 := Lib.hid (show So.run St.zero ls = So.run s' (ls.drop (k + 1)) by rw [hG.out, HDR.out, run_on hRD])
        have HB8 := Lib.hid (hbw.trans ((HB7.out.mono (by omega)).trans hRB))
        clear hRB hrd8 hRD HRD7 HB7 Bb7 HBQ
        go_wp2_with fail
        go_roundw
        case rel => exact ⟨k + 1, s', by omega, by go_num, HR8, HS8, HG8, HB8.out⟩
        case measure => simp [intOf]; omega
      | inr p =>
        rw [hRD] at hRE hRB
        change e = _ at hRE
        subst hRE
        have hRB : Below w7.heap.size w7 w8 := hRB
        have hzz := rd_why hRD
        have tz : (p.2 != 0) = true := by rw [bne_iff_ne]; exact hzz
        have HP8 := Lib.hid (show So.done ls (So.run St.zero ls) = .inr (x.no, x.ln.col p.1, p.2) by rw [hG.out, HDR.out, run_wrong hRD]; rfl)
        have hb8 := HB7.out.trans (hRB.mono (Nat.le_of_lt hz7))
        have B8 := Bb7.out.on hRB
        have e0 : w8.cell? ⟨wr.heap.size, 0, none⟩ = some (Value.int .i64 (x.no : Int)) := B8.at_ 0 _ rfl
        have e1 : w8.cell? ⟨wr.heap.size, 1, none⟩ = some (Value.slice x.A x.fs.length x.c) := B8.at_ 1 _ rfl
        have hrx8 := (HRX.out.below (hb8.mono (by omega))).more (show g3 ≤ w8.heap.size by have := hb8.size; omega)
        have HFA := Lib.hid (faultAt_any x p.1 p.2 w8 HFX.out.some_ (by omega) hrx8)
        have HBW8 := Lib.hid (hbw3.trans (hb8.mono (by omega)))
        clear hRB hRD HRD7 HB7 Bb7 HBQ hb8 B8 hrx8 hzz
        go_wp2_with fail
        refine HFA.out.mono ?_
        rintro e w9 ⟨rfl, b9⟩
        have hb9 := HBW8.out.trans (b9.mono (by have := HBW8.out.size; omega))
        have r9 := HR5.out.on hb9 (by omega)
        obtain ⟨s0, s1, s2, u0, u1, u2, p0, p1, p2, v0, v1, v2⟩ := r9
        have a9 := HB5.out.trans (hb9.mono (by omega))
        clear b9 hb9 HFA e0 e1
        go_wp2_with fail
        refine bodyPost_ret (v := .tuple #[.agg #[.slice none 0 0, .slice none 0 0, .slice none 0 0], .agg #[.int .i64 (x.no : Int), .int .i64 (x.ln.col p.1 : Int), .int .i64 p.2]]) (by simp [results, Tryz.results9, go_sem, s0, s1, s2, u0, u1, u2]) rfl ⟨?_, ?_⟩
        · rw [HP8.out]
          rfl
        · exact (((((a9.setCell (Nat.le_refl _) _).setCell (Nat.le_refl _) _).setCell (Nat.le_refl _) _).setCell (Nat.le_succ _) _).setCell (Nat.le_succ _) _).setCell (Nat.le_succ _) _
    · obtain rfl : k = L.length := by omega
      have hrun : So.run St.zero ls = .inl s := by
        rw [hG.out, List.drop_of_length_le (by rw [← HLS.out, List.length_map]; exact Nat.le_refl _)]
        rfl
      have HRN := Lib.hid hrun
      obtain ⟨lim, vr, vz, vl, zd, cz, R⟩ := hR.out
      have k3 := cell_blk R.blk 3
      have r5 := HR5.out.on hbw3 (by omega)
      have a5 := HB5.out.trans (hbw3.mono (by omega))
      have hgl := lt_blk R.blk
      cases hcu : s.cur with
      | some z =>
        rw [hcu] at k3
        change wr.cell? ⟨g3 + 1, 3, none⟩ = some (.bool true) at k3
        have hls0 : ls ≠ [] := by
          rintro rfl
          have := HRN.out
          injection this with this
          subst this
          cases hcu
        have hL0 : 0 < L.length := by
          have := congrArg List.length HLS.out
          rw [List.length_map] at this
          have := List.length_pos_iff.2 hls0
          omega
        obtain ⟨x, hx⟩ : ∃ x, L[L.length - 1]? = some x := ⟨_, List.getElem?_eq_getElem (by omega)⟩
        have hmem := List.mem_of_getElem? hx
        have hlast : ls.getLast? = some x.ln := by
          rw [List.getLast?_eq_getElem?, ← HLS.out, List.length_map, List.getElem?_map, hx]
          rfl
        obtain ⟨b, o, rfl, hbl, hc⟩ := (HRK.out.below hbw3).at_ lncell_len (by decide) hx
        have c0 : wr.cell? ⟨b, o + (L.length - 1) * 2, none⟩ = some (Value.int .i64 (x.no : Int)) := hc 0 _ rfl
        have c1 : wr.cell? ⟨b, o + (L.length - 1) * 2 + 1, none⟩ = some (Value.slice x.A x.fs.length x.c) := hc 1 _ rfl
        have hfx := HFW.out x.ln (by rw [← HLS.out]; exact List.mem_map.2 ⟨x, hmem, rfl⟩)
        have hf24 : x.fs.length ≤ 24 := hfx.most
        have HFA := Lib.hid (faultAt_any x 0 5 wr hfx.some_ (by omega) (((HRF.out x hmem).below hbw3).more (by omega)))
        have HP8 := Lib.hid (show So.done ls (So.run St.zero ls) = .inr (x.no, x.ln.col 0, 5) by
          rw [HRN.out]
          unfold So.done
          simp only [hcu, hlast]
          rfl)
        have tL : ((L.length : Int) - 1).toNat = L.length - 1 := by omega
        have tL0 : (0 : Int) ≤ (L.length : Int) - 1 := by omega
        have HR5 := Lib.hid r5
        have HA5 := Lib.hid a5
        clear hc hx hmem hlast hfx hrun R hcu hls0 r5 a5 hG hS hR
        go_wp2_with fail
        refine HFA.out.mono ?_
        rintro e w9 ⟨rfl, b9⟩
        obtain ⟨s0, s1, s2, u0, u1, u2, p0, p1, p2, v0, v1, v2⟩ := HR5.out.on b9 (by omega)
        have a9 := HA5.out.trans (b9.mono (by omega))
        clear b9 HFA
        go_wp2_with fail
        refine bodyPost_ret (v := .tuple #[.agg #[.slice none 0 0, .slice none 0 0, .slice none 0 0], .agg #[.int .i64 (x.no : Int), .int .i64 (x.ln.col 0 : Int), .int .i64 5]]) (by simp [results, Tryz.results9, go_sem, s0, s1, s2, u0, u1, u2]) rfl ⟨?_, ?_⟩
        · rw [HP8.out]
          rfl
        · exact (((((a9.setCell (Nat.le_refl _) _).setCell (Nat.le_refl _) _).setCell (Nat.le_refl _) _).setCell (Nat.le_succ _) _).setCell (Nat.le_succ _) _).setCell (Nat.le_succ _) _
      | none =>
        rw [hcu] at k3
        change wr.cell? ⟨g3 + 1, 3, none⟩ = some (.bool false) at k3
        obtain rfl : cz = none := by
          have := R.cn
          rw [hcu] at this
          cases cz with
          | none => rfl
          | some d => cases this
        have Rz := R.z
        simp only [Option.toList_none, List.append_nil] at Rz
        obtain ⟨Ar, cr, hvr⟩ := own_form2 R.r
        obtain ⟨Az, cz', hvz⟩ := own_form2 Rz
        obtain ⟨Al, cl, hvl⟩ := own_form2 R.l
        subst hvr hvz hvl
        have k0 := cell_blk R.blk 0
        have k1 := cell_blk R.blk 1
        have k2 := cell_blk R.blk 2
        change wr.cell? ⟨g3 + 1, 0, none⟩ = some (.slice Ar s.rs.length cr) at k0
        change wr.cell? ⟨g3 + 1, 1, none⟩ = some (.slice Az zd.length cz') at k1
        change wr.cell? ⟨g3 + 1, 2, none⟩ = some (.slice Al s.ls.length cl) at k2
        have HP8 := Lib.hid (show So.done ls (So.run St.zero ls) = .inl s.src by
          rw [HRN.out]
          unfold So.done
          simp only [hcu])
        have HRR := Lib.hid R
        have HRZ := Lib.hid Rz
        obtain ⟨s0, s1, s2, u0, u1, u2, p0, p1, p2, v0, v1, v2⟩ := r5
        clear R Rz hrun hcu hG hR
        go_wp2_with fail
        refine bodyPost_ret (v := .tuple #[.agg #[.slice Ar s.rs.length cr, .slice Az zd.length cz', .slice Al s.ls.length cl], .agg #[.int .i64 0, .int .i64 0, .int .i64 0]]) (by simp [results, Tryz.results9, go_sem, s0, s1, s2, u0, u1, u2]) rfl ⟨?_, ?_⟩
        · rw [HP8.out]
          have q0 : ∀ {e : TypeId} {kk nn : Nat} {vv : Value} {xs : List Value}, wr.ownsRow (g3 + 1) e kk vv nn xs → ((((((wr.setCell ⟨w.heap.size, 0, none⟩ (.slice Ar s.rs.length cr)).setCell ⟨w.heap.size, 1, none⟩ (.slice Az zd.length cz')).setCell ⟨w.heap.size, 2, none⟩ (.slice Al s.ls.length cl)).setCell ⟨w.heap.size + 1, 0, none⟩ (.int .i64 0)).setCell ⟨w.heap.size + 1, 1, none⟩ (.int .i64 0)).setCell ⟨w.heap.size + 1, 2, none⟩ (.int .i64 0)).ownsRow (g3 + 1) e kk vv nn xs := fun h =>
            ownsRow_setCell_below (ownsRow_setCell_below (ownsRow_setCell_below (ownsRow_setCell_below (ownsRow_setCell_below (ownsRow_setCell_below h (by show w.heap.size < g3 + 1; omega) _) (by show w.heap.size < g3 + 1; omega) _) (by show w.heap.size < g3 + 1; omega) _) (by show w.heap.size + 1 < g3 + 1; omega) _) (by show w.heap.size + 1 < g3 + 1; omega) _) (by show w.heap.size + 1 < g3 + 1; omega) _
          refine ⟨⟨Ar, cr, s.rs, Az, cz', zd, Al, cl, s.ls⟩, ?_, good_fits hS.out rfl HRR.out.zn rfl, ⟨Rk.of_own (q0 HRR.out.r), Rk.of_own (q0 HRZ.out), fun d hd => Rk.of_own (q0 (HRR.out.e d hd)), Rk.of_own (q0 HRR.out.l)⟩, rfl⟩
          show (⟨s.rs, zd.map Zd.zn, s.ls⟩ : Src) = s.src
          rw [HRR.out.zn]
          rfl
        · exact (((((a5.setCell (Nat.le_refl _) _).setCell (Nat.le_refl _) _).setCell (Nat.le_refl _) _).setCell (Nat.le_succ _) _).setCell (Nat.le_succ _) _).setCell (Nat.le_succ _) _
/-- What Parse answers of any text. -/
theorem sparse_any (S : ByteArray) (w : World) (hs : S.size ≤ 9223372036854775807) (hE : Ev w) :
    Calls Tryz.prog 9 #[.string S] w fun e w' => ParseE (So.prs S.data.toList) e w' ∧ Below w.heap.size w w' := by
  cases h : Ln.all S.data.toList with
  | inr f => exact sparse_no S w hs hE f h
  | inl ls => exact sparse_yes S w hs hE ls h
end Go.Proofs.YtkcbmnboccjnnaaGreatDoor
