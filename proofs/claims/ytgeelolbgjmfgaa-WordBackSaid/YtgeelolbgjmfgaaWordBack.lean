/- The walk of the law WordBack. -/
import Derived.Test.YtgeelolbgjmfgaaLives05
import Derived.Test.YtgeelolbgjmfgaaSized
import Derived.OwnWalk
import Derived.Laws.OwnMore
import Derived.Deep.DeepCutAuto
import Derived.Deep.CutBlock
namespace Go.Proofs.Ytgeelolbgjmfgaa
open Go.RowKit
theorem str_info : (Try.prog.info? 9).map (fun i => (i.zero, i.size, i.bytes)) = some (some (.string ⟨#[]⟩), 1, 16) := by kernel_rfl
/-- The cells of a row of strings. -/
def bcells (l : List ByteArray) : List Value := l.map Value.string
theorem bcells_app (a b : List ByteArray) : bcells (a ++ b) = bcells a ++ bcells b := by simp [bcells]
theorem wpList_cats {w : World} {ops : Array Oper} {rest : List Oper} {o : Oper} {a : Act} {Q : Exit → Act → World → Prop} (hgd : o.guard = none) (s x : Operand)
    (ho : o.op = .call { callee := .builtin .append, args := #[s, x], argTypes := #[22, 22] }) (base : Nat) (v : Value) (l : List ByteArray) (hown : w.ownsRow base 9 1 v l.length (bcells l)) (hs : a.eval s = v) (ad : Addr) (m c : Nat) (t : List ByteArray) (ht : t.length = m)
    (hx : a.eval x = .slice (some ad) m c) (hc : ∀ i, i < m → w.cell? (ad.add i) = some (.string (t.getD i ByteArray.empty))) (hlen : l.length + m ≤ 4096) (hbase : base ≤ w.heap.size)
    (h : ∀ v' w', w'.ownsRow base 9 1 v' (l ++ t).length (bcells (l ++ t)) → w.grownBy w' v.ownBlock → wpList Try.prog ops Q rest (a.put o.dst v') w') : wpList Try.prog ops Q (o :: rest) a w := by
  obtain ⟨i0, hi, hz0, hz1, hz2⟩ := info_parts str_info
  subst ht
  refine wpList_append_own w hgd s x 22 ho base 9 i0 (.string ⟨#[]⟩) 1 16 Try.underlying22 hi hz0 hz1 hz2 rfl (by omega) v l.length (bcells l) hs hown ad t.length c (bcells t) hx (by simp [bcells]) (fun j u hu => ?_) (fun u hu => ?_) (by unfold maxLen; omega) (by omega) hbase (fun v' w' h1 h2 _ => ?_)
  · have hj : j < t.length := by simpa [bcells] using (List.getElem?_eq_some_iff.1 hu).1
    rw [hc j hj, ← hu]
    simp [bcells, List.getD_eq_getElem?_getD, hj]
  · obtain ⟨z, _, rfl⟩ := List.mem_map.1 hu
    rfl
  · refine h v' w' ?_ h2
    rw [bcells_app, List.length_append]
    exact h1
/-- A row of the call's own, read as a slice of strings. -/
theorem sl_of_ownb {w : World} {base n c q : Nat} {A : Option Addr} {l : List ByteArray} (hq : l.length = q) (h : w.ownsRow base 9 1 (.slice A n c) q (bcells l)) : n = q ∧ Sl w w.heap.size A n (fun i => .string (l.getD i ByteArray.empty)) := by
  subst hq
  have hc := @World.ownsRow.cells _ _ _ _ _ _ _ h
  have hlt := h.lt
  rcases h.2 with ⟨he, h0⟩ | ⟨g, cap, cur, he, _⟩
  · injection he with h1 h2 h3
    subst h1 h2 h3
    exact ⟨h0.symm, fun hn => absurd hn (by omega)⟩
  · injection he with h1 h2 h3
    subst h1 h2 h3
    refine ⟨rfl, fun hn => ⟨_, rfl, (hlt g rfl).2, fun i hi => ?_⟩⟩
    exact hc rfl i _ (by simp [bcells, List.getD_eq_getElem?_getD, List.getElem?_eq_getElem hi])
theorem own_formb {w : World} {b : Nat} {e : TypeId} {s n : Nat} {v : Value} {xs : List Value} (h : w.ownsRow b e s v n xs) : ∃ A c, v = .slice A n c := by
  rcases h.2 with ⟨rfl, rfl⟩ | ⟨g, cap, cur, rfl, _⟩
  · exact ⟨_, _, rfl⟩
  · exact ⟨_, _, rfl⟩
theorem own_baseb {w : World} {b : Nat} {e : TypeId} {s n : Nat} {v : Value} {xs : List Value} (h : w.ownsRow b e s v n xs) : ∀ k, v.ownBlock = some k → b ≤ k := fun k hk => (h.lt k hk).1
theorem Wd.beg_size {x s : ByteArray} (h : Wd.beg x s = true) : s.size ≤ x.size := by
  rcases Nat.lt_or_ge x.size s.size with h' | h'
  · rw [Wd.beg_short h'] at h; cases h
  · exact h'
theorem pick_is (s : ByteArray) (A : Option Addr) (n c : Nat) (L : List ByteArray) (v : Int) (hl : L.length = n) (hn : n ≤ 4294967296) (hs : s.size ≤ 4294967296) (hL : ∀ i, i < n → (L.getD i ByteArray.empty).size ≤ 4294967296)
    (w : World) (B : Nat) (hB : B ≤ w.heap.size) (hS : Sl w B A n (fun i => .string (L.getD i ByteArray.empty))) (hv : Wd.pick s L = v) :
    Calls Try.prog 11 #[.string s, .slice A n c] w fun e w' => e = .returned (.int .i64 v) ∧ Below w.heap.size w w' := by
  subst hv
  exact pick_any s A n c L hl hn hs hL w B hB hS
theorem getD_app_le (l : List ByteArray) (m : ByteArray) (M : Nat) (h : ∀ i, i < l.length → (l.getD i ByteArray.empty).size ≤ M) (hm : m.size ≤ M) : ∀ i, i < (l ++ [m]).length → ((l ++ [m]).getD i ByteArray.empty).size ≤ M := by
  intro i hi
  rcases Nat.lt_or_ge i l.length with h' | h'
  · have := h i h'
    rw [List.getD_eq_getElem?_getD] at this ⊢
    rwa [List.getElem?_append_left h']
  · have e : i = l.length := by simp at hi; omega
    subst e
    simpa [List.getD_eq_getElem?_getD] using hm
theorem small_is (A : Option Addr) (n c : Nat) (L : List ByteArray) (v : Bool) (hn : n ≤ 9223372036854775807) (w : World) (hz : ∀ i, i < n → (L.getD i ByteArray.empty).size ≤ 9223372036854775807) (hS : Sl w w.heap.size A n (fun i => .string (L.getD i ByteArray.empty))) (hv : smB n L = v) :
    Calls Try.prog 6 #[.slice A n c] w fun e w' => e = .returned (.bool v) ∧ w = w' := by
  subst hv
  exact small5_any A n c L hn w hz hS
theorem Sl.wide {w : World} {B B' : Nat} {A : Option Addr} {n : Nat} {v : Nat → Value} (h : Sl w B A n v) (hb : B ≤ B') : Sl w B' A n v := by
  intro hn
  obtain ⟨ad, e, hl, hc⟩ := h hn
  exact ⟨ad, e, by omega, hc⟩
theorem monthtext_out (n : Int) (w : World) (h1 : -9223372036854775808 ≤ n) (h2 : n ≤ 9223372036854775807) (h : n < 1 ∨ 12 < n) : Calls Try.prog 7 #[.int .i64 n] w fun e w' => e = .returned (.string ⟨#[]⟩) ∧ Below w.heap.size w w' := by
  by_cases h0 : n < -9223372036854775807
  · exact monthtext_least n w h1 h0
  · exact monthtext_no n w (by omega) h2 (by omega)
theorem weekdaytext_any_no (n : Int) (w : World) (h1 : -9223372036854775808 ≤ n) (h2 : n ≤ 9223372036854775807) (h : n < 0 ∨ 6 < n) : Calls Try.prog 9 #[.int .i64 n] w fun e w' => e = .returned (.string ⟨#[]⟩) ∧ Below w.heap.size w w' := by
  have hh := Lib.hid h
  clear h
  go_enter Try.func9, Try.ntmps9
  go_wp2_with fail
  refine (weekdays_any _).mono ?_
  rintro e w1 ⟨rfl, hS, b1⟩
  go_wp2_with fail
  refine (text_no n _ 7 _ w1 (by have := hh.out; omega) (by omega)).mono ?_
  rintro e w' ⟨rfl, rfl⟩
  clear hS
  go_wp2_with fail
  go_ret
  exact ⟨rfl, b1⟩
theorem cell_one (w : World) (x : ByteArray) (t : TypeId) : ∀ i, i < 1 → (w.alloc (.cells #[.string x] t)).cell? ((⟨w.heap.size, 0, none⟩ : Addr).add i) = some (.string ([x].getD i ByteArray.empty)) := by
  intro i hi
  obtain rfl : i = 0 := by omega
  have e : (⟨w.heap.size, 0, none⟩ : Addr).add 0 = ⟨w.heap.size, 0, none⟩ := by unfold Addr.add; simp
  rw [e, World.cell?_alloc_new]
  rfl
theorem emp_size {X : ByteArray} (h : X.size = 3) : X.toList.isEmpty = false := not_empty (by omega)
set_option maxRecDepth 100000 in
set_option maxHeartbeats 4000000 in
theorem wordBack_in (n : Int) (hn1 : -9223372036854775808 ≤ n) (hn2 : n ≤ 9223372036854775807) (s : ByteArray) (hs : s.size ≤ 1000) (A : Option Addr) (m c : Nat) (hm : m ≤ 40) (names : List ByteArray) (HL : Hid (names.length = m)) (HZ : Hid (∀ i, i < m → (names.getD i ByteArray.empty).size ≤ 1000)) (HSM : Hid (smB m names = true)) (more : ByteArray) (hmo : more.size ≤ 1000) (w : World)
   (hS : Sl w w.heap.size A m (fun i => .string (names.getD i ByteArray.empty))) :
    Calls Try.prog 3 #[.int .i64 n, .string s, .slice A m c, .string more] w fun e w' => e = .returned (.bool true) ∧ Below w.heap.size w w' := by
  go_enter Try.func3, Try.ntmps3
  go_wp2_with fail
  refine (lives05 _).mono ?_
  rintro e w1 ⟨rfl, a1⟩
  go_wp2_with fail
  refine (small_is _ m _ names true (by omega) _ (fun i hi => by have := HZ.out i hi; omega) ((hS.below a1).wide a1.size) HSM.out).mono ?_
  rintro e w' ⟨rfl, rfl⟩
  go_upto_if 28 with fail
  go_cut [] from 29 to 29 (fun wx => wx = w1)
  case first => go_wp2_with fail; go_meet; case rel => rfl
  case rest =>
  subst hcut
  go_step
  go_step
  go_cut [] from 9 to 49 (fun wx => Below w.heap.size w wx)
  case first =>
    by_cases hd : 1 ≤ n ∧ n ≤ 12
    · obtain ⟨i, hi, rfl⟩ : ∃ i : Nat, i < 12 ∧ n = i + 1 := ⟨(n - 1).toNat, by omega, by omega⟩
      clear hd
      have HM := Lib.hid (Wd.mons_back i hi)
      have em := emp_size HM.out.2.1
      have t1 : decide (1 ≤ (i : Int) + 1) = true := by simp; omega
      have t2 : decide ((i : Int) + 1 ≤ 12) = true := by simp; omega
      go_wp2_with fail
      refine (monthtext_yes i _ hi).mono ?_
      rintro e w2 ⟨rfl, b2⟩
      have a2 := a1.trans (b2.mono a1.size)
      go_wp2_with fail
      refine (month_lit (Wd.three Wd.mons i) (i + 1) _ (by have := HM.out.2.1; omega) (by rw [HM.out.1])).mono ?_
      rintro e w3 ⟨rfl, b3⟩
      have a3 := a2.trans (b3.mono a2.size)
      go_wp2_with fail
      go_meet
      case rel => exact a3
    · have HD := Lib.hid hd
      have t1 : (decide (1 ≤ n) && decide (n ≤ 12)) = false := by simp; omega
      clear hd
      go_wp2_with fail
      refine (monthtext_out n _ hn1 hn2 (by have := HD.out; omega)).mono ?_
      rintro e w2 ⟨rfl, b2⟩
      have a2 := a1.trans (b2.mono a1.size)
      go_wp2_with fail
      all_goals (first | (exfalso; have := HD.out; omega) | (go_meet; case rel => exact a2))
  case rest =>
  go_step
  go_step
  go_cut [] from 10 to 70 (fun wx => Below w.heap.size w wx)
  case first =>
    have a1 := hcut
    by_cases hd : 0 ≤ n ∧ n ≤ 6
    · obtain ⟨i, hi, rfl⟩ : ∃ i : Nat, i < 7 ∧ n = i := ⟨n.toNat, by omega, by omega⟩
      clear hd
      have HM := Lib.hid (Wd.week_back i hi)
      have em := emp_size HM.out.2.1
      have t1 : decide (0 ≤ (i : Int)) = true := by simp
      have t2 : decide ((i : Int) ≤ 6) = true := by simp; omega
      go_wp2_with fail
      refine (weekdaytext_yes i _ hi).mono ?_
      rintro e w2 ⟨rfl, b2⟩
      have a2 := a1.trans (b2.mono a1.size)
      go_wp2_with fail
      refine (weekday_lit (Wd.three Wd.week i) i _ (by have := HM.out.2.1; omega) (by rw [HM.out.1])).mono ?_
      rintro e w3 ⟨rfl, b3⟩
      have a3 := a2.trans (b3.mono a2.size)
      go_wp2_with fail
      go_meet
      case rel => exact a3
    · have HD := Lib.hid hd
      have t1 : (decide (0 ≤ n) && decide (n ≤ 6)) = false := by simp; omega
      clear hd
      go_wp2_with fail
      refine (weekdaytext_any_no n _ hn1 hn2 (by have := HD.out; omega)).mono ?_
      rintro e w2 ⟨rfl, b2⟩
      have a2 := a1.trans (b2.mono a1.size)
      go_wp2_with fail
      all_goals (first | (exfalso; have := HD.out; omega) | (go_meet; case rel => exact a2))
  case rest =>
    have a5 := hcut
    clear hcut
    rcases Wd.pick_place s names with hp | ⟨h0, k, hp, hk, X, hX, hbeg⟩
    · have HP := Lib.hid hp
      clear hp
      go_wp2_with fail
      refine (pick_is s A m c names (-1) HL.out (by omega) (by omega) (fun i hi => by have := HZ.out i hi; omega) _ _ a5.size (hS.below a5) HP.out).mono ?_
      rintro e w6 ⟨rfl, b6⟩
      have a6 := a5.trans (b6.mono a5.size)
      go_wp2_with fail
      go_ret
      exact ⟨rfl, a6⟩
    · rw [HL.out] at hk
      obtain ⟨ad, rfl, hal, hc⟩ := hS.at_ hk
      have hXX : names.getD k ByteArray.empty = X := by rw [List.getD_eq_getElem?_getD, hX]; rfl
      change w.cell? (ad.add k) = some (.string (names.getD k ByteArray.empty)) at hc
      rw [hXX] at hc
      have hXm := HZ.out k hk
      rw [hXX] at hXm
      have hXs := Wd.beg_size hbeg
      have HO := Lib.hid ((Wd.one_take hXs).trans hbeg)
      have HT := Lib.hid (show (X.extract 0 s.size).size ≤ 1000 by rw [Wd.take_size X _ hXs]; exact hs)
      have HP := Lib.hid hp
      have HX := Lib.hid hX
      have c5 := (a5.cell (p := ad.add k) (by rw [block_of_add]; exact hal)).trans hc
      have HC : Hid (∀ i, i < m → w.cell? (ad.add i) = some (.string (names.getD i ByteArray.empty))) := Lib.hid fun i hi => by
        obtain ⟨ad', e, _, h⟩ := hS (by omega)
        injection e with e
        subst e
        exact h i hi
      clear hp hX hXX hbeg hc
      have t1 : decide (m ≤ k) = false := by simp; omega
      have t2 : decide (X.size < s.size) = false := by simp; omega
      go_wp2_with fail
      refine (pick_is s _ m c names (k : Int) HL.out (by omega) (by omega) (fun i hi => by have := HZ.out i hi; omega) _ _ a5.size (hS.below a5) HP.out).mono ?_
      rintro e w6 ⟨rfl, b6⟩
      have a6 := a5.trans (b6.mono a5.size)
      have c6 := (b6.cell (p := ad.add k) (by rw [block_of_add]; have := a5.size; omega)).trans c5
      clear c5
      go_wp2_with fail
      refine (same_lit (X.extract 0 s.size) s true _ (by have := HT.out; omega) (by omega) HO.out).mono ?_
      rintro e w7 ⟨rfl, b7⟩
      have a7 := a6.trans (b7.mono a6.size)
      have c7 := (b7.cell (p := ad.add k) (by rw [block_of_add]; have := a6.size; omega)).trans c6
      clear c6 b6 b7 t1 t2 a5 a6
      go_upto_if 103 with fail
      go_cut [11] from 71 to 103 (fun s11 wx => s11 = .int .i64 k ∧ wx = w7)
      case first => go_wp2_with fail; go_meet; case rel => exact ⟨rfl, rfl⟩
      case rest =>
      obtain ⟨rfl, rfl⟩ := hcut
      go_step
      go_step
      go_cut [11] from 104 to 125 (fun s11 wx => s11 = .int .i64 k ∧ Below w.heap.size w wx)
      case first =>
        by_cases hlong : s.size < X.size
        · have HT1 := Lib.hid (show (X.extract 0 (s.size + 1)).size ≤ 1001 by rw [Wd.take_size X _ (by omega)]; omega)
          have HQ := Lib.hid (Wd.pick_longer h0 HP.out HX.out hlong)
          have t1 : decide (s.size < X.size) = true := by simp; omega
          go_wp2_with fail
          refine (pick_is (X.extract 0 (s.size + 1)) _ m c names (k : Int) HL.out (by omega) (by have := HT1.out; omega) (fun i hi => by have := HZ.out i hi; omega) _ _ a7.size (hS.below a7) HQ.out).mono ?_
          rintro e w8 ⟨rfl, b8⟩
          have a8 := a7.trans (b8.mono a7.size)
          go_wp2_with fail
          go_meet
          case rel => exact ⟨rfl, a8⟩
        · have t1 : decide (s.size < X.size) = false := by simp; omega
          go_wp2_with fail
          go_meet
          case rel => exact ⟨rfl, a7⟩
      case rest =>
      obtain ⟨rfl, a8⟩ := hcut
      have hsz := a8.size
      have HC8 := Lib.hid (show ∀ i, i < m → (wc.alloc (.cells #[] 9)).cell? (ad.add i) = some (.string (names.getD i ByteArray.empty)) from fun i hi => ((a8.alloc hsz (.cells #[] 9)).cell (p := ad.add i) (by rw [block_of_add]; exact hal)).trans (HC.out i hi))
      have HM0 := Lib.hid (World.ownsRow_made (base := w.heap.size) (e := 9) (size := 1) wc #[] 0 hsz (Nat.zero_le _) rfl)
      have hszA : w.heap.size ≤ (wc.alloc (.cells #[] 9)).heap.size := by simp; omega
      have hlm : names.length + 1 ≤ 4096 := by have := HL.out; omega
      have HLm := Lib.hid (show (names ++ [more]).length = m + 1 by simp [HL.out])
      clear c7 a7 HC
      go_upto_region 19 with (first
        | (at_builtin
           refine wpList_cats rfl (.tmp 126) (.tmp 127) rfl w.heap.size _ [] HM0.out rfl ad m c names HL.out rfl HC8.out (by simp; omega) hszA ?_
           intro v1 w9 hown1 hg1
           have a9 := (a8.alloc hsz (.cells #[] 9)).grown hg1 hszA (own_baseb HM0.out)
           rw [List.nil_append] at hown1
           have HO1 := Lib.hid (hown1.alloc (.cells #[.string more] 9))
           have hszB : w.heap.size ≤ (w9.alloc (.cells #[.string more] 9)).heap.size := by have := a9.size; simp; omega
           have HC9 := Lib.hid (cell_one w9 more 9)
           have hbw := Lib.hid (own_baseb hown1)
           clear hown1 hg1 a8 HC8 HM0)
        | (at_builtin
           refine wpList_cats rfl (.tmp 128) (.tmp 130) rfl w.heap.size _ names HO1.out rfl ⟨w9.heap.size, 0, none⟩ 1 1 [more] rfl rfl HC9.out hlm hszB ?_
           intro v2 w10 hown2 hg2
           have a10 := (a9.alloc a9.size (.cells #[.string more] 9)).grown hg2 hszB hbw.out
           have HO2 := Lib.hid hown2
           clear hown2 hg2 a9 HO1 HC9 hbw))
      have hown := HO2.out
      rw [HLm.out] at hown
      obtain ⟨A2, c2, rfl⟩ := own_formb hown
      have hsl := (sl_of_ownb HLm.out hown).2
      have HZ2 := Lib.hid (getD_app_le names more 4294967296 (fun i hi => by rw [HL.out] at hi; have := HZ.out i hi; omega) (by omega))
      clear hown HO2 hlm hszA hszB
      have hno : ∀ (h : Wd.beg more s = false), Wd.pick s (names ++ [more]) = k := fun h => Wd.pick_more h0 HP.out h
      by_cases hms : more.size < s.size
      · have HR := Lib.hid (hno (Wd.beg_short hms))
        have t1 : decide (s.size ≤ more.size) = false := by simp; omega
        clear hno
        go_wp2_with fail
        refine (pick_is s A2 (m + 1) c2 (names ++ [more]) (k : Int) HLm.out (by omega) (by omega) (fun i hi => HZ2.out i (by rw [HLm.out]; exact hi)) _ _ (Nat.le_refl _) hsl HR.out).mono ?_
        rintro e w11 ⟨rfl, b11⟩
        have a11 := a10.trans (b11.mono a10.size)
        go_wp2_with fail
        go_ret
        exact ⟨rfl, a11⟩
      · have hms : s.size ≤ more.size := by omega
        have HT2 := Lib.hid (show (more.extract 0 s.size).size ≤ 1000 by rw [Wd.take_size more _ hms]; exact hs)
        have HO3 := Lib.hid (Wd.one_take hms)
        have t1 : decide (s.size ≤ more.size) = true := by simp; omega
        cases hB : Wd.beg more s with
        | false =>
          have HR := Lib.hid (hno hB)
          rw [hB] at HO3
          clear hno hB
          go_wp2_with fail
          refine (same_lit (more.extract 0 s.size) s false _ (by have := HT2.out; omega) (by omega) HO3.out).mono ?_
          rintro e w11 ⟨rfl, b11⟩
          have a11 := a10.trans (b11.mono a10.size)
          have hsl2 := hsl.below b11
          go_wp2_with fail
          refine (pick_is s A2 (m + 1) c2 (names ++ [more]) (k : Int) HLm.out (by omega) (by omega) (fun i hi => HZ2.out i (by rw [HLm.out]; exact hi)) _ _ b11.size hsl2 HR.out).mono ?_
          rintro e w12 ⟨rfl, b12⟩
          have a12 := a11.trans (b12.mono a11.size)
          go_wp2_with fail
          go_ret
          exact ⟨rfl, a12⟩
        | true =>
          rw [hB] at HO3
          clear hno hB
          go_wp2_with fail
          refine (same_lit (more.extract 0 s.size) s true _ (by have := HT2.out; omega) (by omega) HO3.out).mono ?_
          rintro e w11 ⟨rfl, b11⟩
          have a11 := a10.trans (b11.mono a10.size)
          go_wp2_with fail
          go_ret
          exact ⟨rfl, a11⟩
set_option maxRecDepth 100000 in
theorem wordBack_any (n : Int) (hn1 : -9223372036854775808 ≤ n) (hn2 : n ≤ 9223372036854775807) (s : ByteArray) (hs : s.size ≤ 9223372036854775807) (A : Option Addr) (m c : Nat) (hm : m ≤ 9223372036854775807) (names : List ByteArray) (hl : names.length = m) (hz : ∀ i, i < m → (names.getD i ByteArray.empty).size ≤ 9223372036854775807) (more : ByteArray) (hmo : more.size ≤ 9223372036854775807) (w : World)
   (hS : Sl w w.heap.size A m (fun i => .string (names.getD i ByteArray.empty))) :
    Calls Try.prog 3 #[.int .i64 n, .string s, .slice A m c, .string more] w fun e w' => e = .returned (.bool true) ∧ Below w.heap.size w w' := by
  have HL := Lib.hid hl
  have HZ := Lib.hid hz
  clear hl hz
  by_cases h1 : 1000 < s.size
  · go_enter Try.func3, Try.ntmps3
    go_wp2_with fail
    refine (lives05 _).mono ?_
    rintro e w1 ⟨rfl, a1⟩
    go_wp2_with fail
    go_ret
    exact ⟨rfl, a1⟩
  · by_cases h2 : 1000 < more.size
    · go_enter Try.func3, Try.ntmps3
      go_wp2_with fail
      refine (lives05 _).mono ?_
      rintro e w1 ⟨rfl, a1⟩
      go_wp2_with fail
      go_ret
      exact ⟨rfl, a1⟩
    · cases h3 : smB m names with
      | false =>
        have HSM := Lib.hid h3
        clear h3
        go_enter Try.func3, Try.ntmps3
        go_wp2_with fail
        refine (lives05 _).mono ?_
        rintro e w1 ⟨rfl, a1⟩
        go_wp2_with fail
        refine (small_is _ m _ names false hm _ HZ.out ((hS.below a1).wide a1.size) HSM.out).mono ?_
        rintro e w' ⟨rfl, rfl⟩
        go_wp2_with fail
        go_ret
        exact ⟨rfl, a1⟩
      | true =>
        have h4 := h3
        unfold smB at h4
        rw [decide_eq_true_eq] at h4
        exact wordBack_in n hn1 hn2 s (by omega) A m c h4.1 names HL (Lib.hid h4.2) (Lib.hid h3) more (by omega) w hS
theorem walkWordBack (n : Int) (hn : (Lit.int .i64 n).wf = true) (s : ByteArray) (hs : s.size ≤ maxLen) (A : Option Addr) (m c : Nat) (hm : m ≤ maxLen) (names : List ByteArray) (hl : names.length = m) (hz : ∀ i, i < m → (names.getD i ByteArray.empty).size ≤ reachBytes) (more : ByteArray) (hmo : more.size ≤ maxLen) (w : World) (hS : Sl w w.heap.size A m (fun i => .string (names.getD i ByteArray.empty))) :
    Calls Try.prog 3 #[.int .i64 n, .string s, .slice A m c, .string more] w fun e w' => e = .returned (.bool true) ∧ Below w.heap.size w w' := by
  have b := bounds_i64 hn
  unfold maxLen at hs hm hmo
  exact wordBack_any n b.1 b.2 s (by omega) A m c (by omega) names hl (fun i hi => by have := hz i hi; unfold reachBytes at this; omega) more (by omega) w hS
end Go.Proofs.Ytgeelolbgjmfgaa
