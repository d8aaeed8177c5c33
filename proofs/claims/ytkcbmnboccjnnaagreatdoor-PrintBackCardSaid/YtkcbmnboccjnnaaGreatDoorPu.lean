/- A page's lines: print.page.put. -/
import Derived.Test.YtkcbmnboccjnnaaGreatDoorCc
namespace Go.Proofs.YtkcbmnboccjnnaaGreatDoor
open Go.RowKit
set_option maxRecDepth 100000
/-- Lines as they are written. -/
def lfs (L : List ByteArray) : List UInt8 := L.flatMap fun t => t.data.toList ++ [10]
theorem lfs_snoc (L : List ByteArray) (t : ByteArray) : lfs (L ++ [t]) = lfs L ++ (t.data.toList ++ [10]) := by
  unfold lfs
  rw [List.flatMap_append]
  simp
/-- A row of texts, whole. -/
def Th (w : World) (v : Value) (L : List ByteArray) : Prop := (v = .slice none 0 0 ∧ L = []) ∨ ∃ (g c : Nat) (cs : Array Value) (fr : Nat × Nat), v = .slice (some ⟨g, 0, none⟩) L.length c ∧ w.heap[g]? = some (Obj.cells cs 9 fr) ∧ ∀ j, j < L.length → cs[j]? = some (.string (L.getD j ByteArray.empty))
theorem Th.keep {w w' : World} {v : Value} {L : List ByteArray} (h : Th w v L) (k : KeepS w w') : Th w' v L := by
  rcases h with h | ⟨g, c, cs, fr, e, hg, hc⟩
  · exact .inl h
  · exact .inr ⟨g, c, cs, fr, e, k _ _ _ hg, hc⟩
theorem Th.len {w : World} {v : Value} {L : List ByteArray} (h : Th w v L) : ∃ A c, v = .slice A L.length c := by
  rcases h with ⟨e, rfl⟩ | ⟨g, c, _, _, e, _, _⟩
  · exact ⟨none, 0, e⟩
  · exact ⟨some ⟨g, 0, none⟩, c, e⟩
theorem Th.at_ {w : World} {A : Option Addr} {n c : Nat} {L : List ByteArray} (h : Th w (.slice A n c) L) {k : Nat} (hk : k < L.length) : ∃ g, A = some ⟨g, 0, none⟩ ∧ w.cell? ⟨g, k, none⟩ = some (.string (L.getD k ByteArray.empty)) := by
  rcases h with ⟨_, rfl⟩ | ⟨g, c, cs, fr, e, hg, hc⟩
  · simp at hk
  · injection e with e _ _
    refine ⟨g, e, ?_⟩
    have := hc k hk
    simp [World.cell?, hg, this]
theorem pg_len (l : List UInt8) : (Lib.byteCells l).length = l.length := Lib.byteCells_length l
set_option maxHeartbeats 4000000 in
theorem put_gen (B b : Nat) (l : List UInt8) (v : Value) (L : List ByteArray) (w : World) (hP : Pg w B b (Lib.byteCells l) 0) (hv : Th w v L) (hl : (l ++ lfs L).length ≤ 1099511627776) (hn : L.length ≤ 1048576) (hBw : B ≤ w.heap.size) :
    Calls Tryz.prog 36 #[.pointer (some ⟨b, 0, none⟩), .int .i64 0, v] w fun e w' => (e = .returned (.tuple #[]) ∧ ((l ++ lfs L).length ≤ 1048576 → Pg w' B b (Lib.byteCells (l ++ lfs L)) 0) ∧ (1048576 < (l ++ lfs L).length → Pg w' B b (Lib.byteCells (l ++ lfs L)) 6)) ∧ Below B w w' := by
  obtain ⟨A, c, rfl⟩ := hv.len
  have HV := Lib.hid hv
  have HL := Lib.hid hl
  have HP := Lib.hid hP
  obtain ⟨p0, v0, _, hp0⟩ := hP
  have c2 := hp0.cell2
  have hlt0 := hp0.lt
  obtain ⟨N, hN⟩ : ∃ N, L.length = N := ⟨_, rfl⟩
  rw [hN] at HV hn ⊢
  have HN := Lib.hid hN
  clear hp0 hv hl hN
  go_enter Tryz.func36, Tryz.ntmps36
  go_wp2_with fail
  go_loopw [7, 15] (fun _ i wr => ∃ k : Nat, k ≤ N ∧ i = .int .i64 k ∧ Hid (Pg wr B b (Lib.byteCells (l ++ lfs (L.take k))) 0) ∧ Below B w wr ∧ Hid (KeepS w wr)) (fun _ i _ => N - (intOf i).toNat)
  case atStart => exact ⟨0, Nat.zero_le _, rfl, Lib.hid (by rw [List.take_zero]; simpa [lfs] using HP.out), Below.refl _ _, Lib.hid (KeepS.refl _)⟩
  case round =>
    obtain ⟨k, hk, rfl, hI, bw, hK⟩ := hrel
    by_cases hlt : k < N
    · obtain ⟨g, rfl, hc⟩ := (HV.out.keep hK.out).at_ (k := k) (by have := HN.out; omega)
      have htk : L.take (k + 1) = L.take k ++ [L.getD k ByteArray.empty] := by
        have := HN.out
        rw [List.take_succ_eq_append_getElem (by omega), List.getD_eq_getElem?_getD, List.getElem?_eq_getElem (by omega)]
        rfl
      have hz : (l ++ lfs (L.take (k + 1))).length ≤ 1099511627776 := by
        have h1 := HL.out
        have h2 : lfs L = lfs (L.take (k + 1)) ++ lfs (L.drop (k + 1)) := by
          unfold lfs
          rw [← List.flatMap_append, List.take_append_drop]
        rw [h2, List.length_append, List.length_append] at h1
        rw [List.length_append]
        omega
      rw [htk, lfs_snoc, ← List.append_assoc] at hz
      generalize hT : L.getD k ByteArray.empty = T at *
      generalize hX : l ++ lfs (L.take k) = X at *
      have hsz : X.length + T.size + 1 ≤ 1099511627776 := by
        have : T.data.toList.length = T.size := by simp
        rw [List.length_append, List.length_append, this] at hz
        simpa [Nat.add_assoc] using hz
      have hnew : l ++ lfs (L.take (k + 1)) = X ++ (T.data.toList ++ [10]) := by rw [htk, lfs_snoc, ← List.append_assoc, hX]
      have HNEW := Lib.hid hnew
      have hsw := bw.size
      clear htk hz hT hX hnew
      go_wp2_with (go_at_call 61; refine (pgstr_any T _ hI.out (by rw [pg_len]; omega) (by omega)).mono ?_)
      rintro e w1 ⟨rfl, h1, b1, k1⟩
      have H1 := Lib.hid h1
      have hs1 := b1.size
      clear hI h1 hc
      go_wp2_with (go_at_call 62; refine (pgbyte_any 10 _ H1.out (by rw [List.length_append, pg_len, Lib.strCells_length]; omega) (by omega)).mono ?_)
      rintro e w2 ⟨rfl, h2, b2, k2⟩
      have HX2 : Hid (Pg w2 B b (Lib.byteCells (l ++ lfs (L.take (k + 1)))) 0) := by
        refine Lib.hid ?_
        rw [HNEW.out, Lib.byteCells_append, Lib.byteCells_append, ← Lib.strCells_eq, ← List.append_assoc]
        exact h2
      have hK2 := Lib.hid ((hK.out.trans k1).trans k2)
      have bN := (bw.trans b1).trans b2
      clear h2 H1 HNEW
      go_wp2_with fail
      go_roundw
      case rel => exact ⟨k + 1, by omega, by go_num, HX2, bN, hK2⟩
      case measure => simp [intOf]; omega
    · obtain rfl : k = N := by omega
      have htk : L.take k = L := by rw [← HN.out]; exact List.take_length
      rw [htk] at hI
      have hz := HL.out
      obtain ⟨X, hX⟩ : ∃ X, X = l ++ lfs L := ⟨_, rfl⟩
      rw [← hX] at hI hz
      have HX := Lib.hid hX
      clear hX
      obtain ⟨p1, v1, hp1, hV⟩ := hI.out
      have d2 := hV.cell2
      have f2 := hV.fr 2
      have hS := hV.set2 0
      have hG := Lib.hid (show Pg (wr.setCell ⟨b, 2, none⟩ (.int .i64 0)) B b (Lib.byteCells X) 0 from ⟨p1, v1, hp1, hS⟩)
      have bN := bw.setCell (p := ⟨b, 2, none⟩) hV.own (.int .i64 0)
      clear hp1 hV hS hI htk HV HL HP
      generalize hW : wr.setCell ⟨b, 2, none⟩ (.int .i64 0) = w9 at *
      go_wp2_with (go_at_call 63; refine (pglen_any _ hG.out).mono ?_)
      rintro e w2 ⟨rfl, rfl⟩
      rw [pg_len]
      by_cases hle : X.length ≤ 1048576
      · have hq : ¬ (1048576 : Int) < (X.length : Int) := by omega
        go_wp2_with fail
        go_end0
        have hG' := hG.out
        rw [HX.out] at hG' hle
        exact ⟨⟨rfl, fun _ => hG', fun h => absurd h (by omega)⟩, bN⟩
      · have hq : (1048576 : Int) < (X.length : Int) := by omega
        obtain ⟨p2, v2, hp2, hV2⟩ := hG.out
        have d3 := hV2.cell2
        have f3 := hV2.fr 2
        have hG3 := Lib.hid (show Pg (w2.setCell ⟨b, 2, none⟩ (.int .i64 6)) B b (Lib.byteCells X) 6 from ⟨p2, v2, hp2, hV2.set2 6⟩)
        have bN3 := bN.setCell (p := ⟨b, 2, none⟩) hV2.own (.int .i64 6)
        clear hp2 hV2
        go_wp2_with fail
        go_end0
        have hG' := hG3.out
        rw [HX.out] at hG' hle
        exact ⟨⟨rfl, fun h => absurd h hle, fun _ => hG'⟩, bN3⟩
set_option maxHeartbeats 1000000 in
theorem put_late (B b : Nat) (bs : List Value) (v : Value) (k : Int) (w : World) (hP : Pg w B b bs 6) :
    Calls Tryz.prog 36 #[.pointer (some ⟨b, 0, none⟩), .int .i64 k, v] w fun e w' => e = .returned (.tuple #[]) ∧ w = w' := by
  obtain ⟨p0, v0, _, hp0⟩ := hP
  have c2 := hp0.cell2
  clear hp0
  go_enter Tryz.func36, Tryz.ntmps36
  go_wp2_with fail
  refine bodyPost_ret (v := .tuple #[]) (by simp [results, Tryz.results36, go_sem]) rfl ⟨rfl, rfl⟩
/-- A page as far as lines are put to it: it holds them, or they are too many. -/
def PgW (w : World) (B b : Nat) (l : List UInt8) : Prop := (l.length ≤ 1048576 ∧ Pg w B b (Lib.byteCells l) 0) ∨ (1048576 < l.length ∧ ∃ bs, Pg w B b bs 6)
theorem put_w (B b : Nat) (l : List UInt8) (v : Value) (L : List ByteArray) (w : World) (hP : PgW w B b l) (hv : Th w v L) (hl : (l ++ lfs L).length ≤ 1099511627776) (hn : L.length ≤ 1048576) (hBw : B ≤ w.heap.size) :
    Calls Tryz.prog 36 #[.pointer (some ⟨b, 0, none⟩), .int .i64 0, v] w fun e w' => (e = .returned (.tuple #[]) ∧ PgW w' B b (l ++ lfs L)) ∧ Below B w w' := by
  rcases hP with ⟨_, hP⟩ | ⟨hb, bs, hP⟩
  · refine (put_gen B b l v L w hP hv hl hn hBw).mono ?_
    rintro e w' ⟨⟨rfl, h1, h2⟩, hb⟩
    refine ⟨⟨rfl, ?_⟩, hb⟩
    rcases Nat.lt_or_ge 1048576 (l ++ lfs L).length with h | h
    · exact .inr ⟨h, _, h2 h⟩
    · exact .inl ⟨h, h1 h⟩
  · refine (put_late B b bs v 0 w hP).mono ?_
    rintro e w' ⟨rfl, rfl⟩
    exact ⟨⟨rfl, .inr ⟨by rw [List.length_append]; omega, bs, hP⟩⟩, Below.refl _ _⟩
end Go.Proofs.YtkcbmnboccjnnaaGreatDoor
