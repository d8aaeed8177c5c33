/- The walk of stage 2's theorem TopHexed. -/
import Derived.Test.YtheakfhcllgndaaHexed
import Derived.Test.YtheakfhcllgndaaSized
namespace Go.Proofs.Ytheakfhcllgndaa
open Go.RowKit
theorem getD_take (l : List ByteArray) (k : Nat) (h : k < l.length) : l.take (k + 1) = l.take k ++ [l.getD k ByteArray.empty] := by
  rw [List.take_succ_eq_append_getElem h, List.getD_eq_getElem?_getD, List.getElem?_eq_getElem h]; rfl
set_option maxRecDepth 100000 in
set_option maxHeartbeats 4000000 in
theorem topHexed_any (A : Option Addr) (n c : Nat) (hn : n ≤ 9223372036854775807) (zs : List ByteArray) (hlz : zs.length = n) (hz : ∀ k, k < n → (zs.getD k ByteArray.empty).size ≤ 140737488351232) (w : World) (hs : Sl w w.heap.size A n (fun i => .string (zs.getD i ByteArray.empty))) :
    Calls Try.prog 5 #[.slice A n c] w fun e w' => e = .returned (.bool true) ∧ Below w.heap.size w w' := by
  by_cases h24 : 24 < n
  · go_enter Try.func5, Try.ntmps5
    go_wp2_with fail
    refine (begins2 _).mono ?_
    rintro e w1 ⟨rfl, a1⟩
    go_wp2_with fail
    go_ret
    exact ⟨rfl, a1⟩
  · have HLZ := Lib.hid hlz
    have HZ := Lib.hid hz
    clear hlz hz
    go_enter Try.func5, Try.ntmps5
    go_wp2_with fail
    refine (begins2 _).mono ?_
    rintro e w1 ⟨rfl, a1⟩
    go_wp2_with fail
    go_loopw [3, 4, 23] (fun x v i wr => ∃ k : Nat, k ≤ n ∧ i = .int .i64 k ∧ x = .int .i64 ((tot (zs.take k) : Nat) : Int) ∧ tot (zs.take k) ≤ 2000 ∧ wr.ownsRow w.heap.size 9 1 v (hexs (zs.take k)).length (scells (hexs (zs.take k))) ∧ Below w.heap.size w wr) (fun _ _ i _ => n - (intOf i).toNat)
    case atStart => exact ⟨0, Nat.zero_le _, rfl, rfl, Nat.zero_le _, World.ownsRow_nil _ _ _ _, a1⟩
    case round =>
      clear a1
      obtain ⟨k, hk, rfl, rfl, htot, hown, a2⟩ := hrel
      have hlz := HLZ.out
      by_cases hlt : k < n
      · obtain ⟨ad, rfl, hal, hc⟩ := (hs.below a2).at_ hlt
        change wr.cell? (ad.add k) = some (.string (zs.getD k ByteArray.empty)) at hc
        have hzk := HZ.out k hlt
        have htk := getD_take zs k (by omega)
        have htt : tot (zs.take (k + 1)) = tot (zs.take k) + (3 * (zs.getD k ByteArray.empty).size + 3) := by rw [htk, tot_app]; rfl
        have hhx : hexs (zs.take (k + 1)) = hexs (zs.take k) ++ [Hx.hex (zs.getD k ByteArray.empty).data.toList] := by rw [htk]; simp [hexs]
        have hhl : (hexs (zs.take k)).length ≤ 24 := by simp [hexs]; omega
        generalize hZ : zs.getD k ByteArray.empty = Z at *
        generalize hT : tot (zs.take k) = T at *
        have HT := Lib.hid htt
        have HH := Lib.hid hhx
        have HO := Lib.hid hown
        clear hlz htk htt hhx hZ hT hown
        by_cases hbig : 2000 < T + (3 * Z.size + 3)
        · go_wp2_with fail
          go_ret
          exact ⟨rfl, a2⟩
        · go_wp2_with fail
          refine (hex_any Z _ (by omega)).mono ?_
          rintro e w2 ⟨rfl, b2⟩
          have a3 := a2.trans (b2.mono a2.size)
          have hO2 := Lib.hid (HO.out.kept (only_of_below b2 none) (Classical.em _))
          clear a2 b2 HO
          go_wp2_with (at_builtin; refine wpList_pushs rfl (.tmp 35) (.tmp 38) rfl w.heap.size _ (hexs (zs.take k)) (hO2.out.alloc _) rfl w2.heap.size (Hx.hex Z.data.toList) rfl (by rw [cell_blk (heap_alloc_new _ _)]; rfl) (by omega) (by have := a3.size; simp; omega) ?_; intro v1 w3 hown1 hg1)
          have hsz := a3.size
          have a4 := (a3.alloc hsz (.cells #[.string ⟨(Hx.hex Z.data.toList).toArray⟩] 9)).grown hg1 (by simp; omega) (own_base hO2.out)
          rw [← HH.out] at hown1
          have H1 := Lib.hid hown1
          clear hown1 hg1 a3 hO2
          go_wp2_with fail
          go_roundw
          case rel => exact ⟨k + 1, by omega, by go_num, congrArg (Value.int .i64) (by rw [HT.out]; omega), by rw [HT.out]; omega, H1.out, a4⟩
          case measure => simp [intOf]; omega
      · obtain rfl : k = n := by omega
        rw [List.take_of_length_le (by omega)] at hown htot ⊢
        obtain ⟨AH, cH, rfl⟩ := own_form hown
        obtain ⟨hnl, hsl⟩ := sl_of_own hown
        have hhl : (hexs zs).length = k := by simp [hexs]; omega
        rw [hhl] at hsl
        have hline := line_tot zs
        have hzk : ∀ j, j < k → ((hexs zs).getD j []).length ≤ 4294967296 := fun j hj => by
          have hj' : j < (hexs zs).length := by omega
          have hzs : (hexs zs).getD j [] ∈ hexs zs := by rw [List.getD_eq_getElem?_getD, List.getElem?_eq_getElem hj']; exact List.getElem_mem _
          obtain ⟨z, hzm, he⟩ := List.mem_map.1 hzs
          rw [← he, Hx.hex_len]
          have := mem_tot z zs hzm
          have hzl : z.data.toList.length = z.size := by simp
          omega
        have hokk : ∀ s ∈ hexs zs, s.all okc = true := fun s hs' => by
          obtain ⟨z, _, rfl⟩ := List.mem_map.1 hs'
          exact hex_ok _
        have HT := Lib.hid htot
        rw [hhl]
        have HJ := Lib.hid (join_any AH k cH (by omega) (hexs zs) hhl hzk wr.heap.size wr (Nat.le_refl _) hsl)
        have HHL := Lib.hid hhl
        have HOK := Lib.hid hokk
        have HLN := Lib.hid hline
        clear hown hnl hsl hhl hline hzk hokk htot hlz
        go_wp2_with fail
        refine HJ.out.mono ?_
        rintro e w2 ⟨hJ, b2⟩
        obtain rfl := hJ.ok (by have := HHL.out; omega) HOK.out (by have := HLN.out; have := HT.out; omega)
        have a3 := a2.trans (b2.mono a2.size)
        clear HJ hJ b2 a2
        unfold tup
        have hLs := size_ba (lineOf (hexs zs))
        have hR := cut_line (hexs zs) HOK.out (by have := HHL.out; omega)
        have hLb : (⟨(lineOf (hexs zs)).toArray⟩ : ByteArray).size ≤ 2048 := by have := HLN.out; have := HT.out; omega
        generalize hL : (⟨(lineOf (hexs zs)).toArray⟩ : ByteArray) = L at *
        have hLd : L.data.toList = lineOf (hexs zs) := by rw [← hL]
        rw [← hLd] at hR
        have HR := Lib.hid hR
        clear hL hLs hLd hR
        go_wp2_with fail
        refine (fields_any L hLb _).mono ?_
        rintro e w3 ⟨b3, hE⟩
        have a4 := a3.trans (b3.mono a3.size)
        generalize hRR : cutL L.data.toList none [] 0 = R at hE
        have hR := HR.out
        rw [hRR] at hR
        cases R with
        | inr _ => cases hR
        | inl fs =>
          injection hR with hR
          obtain ⟨vf, rfl, hvf⟩ := hE
          have hfl : fs.length = k := by have := congrArg List.length hR; rw [List.length_map, HHL.out] at this; exact this
          obtain ⟨AF, cF, rfl⟩ := own_form hvf
          have HFS := Lib.hid hR
          have HVF := Lib.hid hvf
          have HFL := Lib.hid hfl
          have hw2 := a3.size
          rw [hfl]
          clear hR hRR hvf b3 HR a3 hfl HLN HOK
          go_wp2_with fail
          go_loopw [67] (fun i wr => ∃ m : Nat, m ≤ k ∧ i = .int .i64 m ∧ Below w3.heap.size w3 wr) (fun i _ => k - (intOf i).toNat)
          case atStart => exact ⟨0, Nat.zero_le _, rfl, Below.refl _ _⟩
          case round =>
            obtain ⟨m, hm, rfl, b4⟩ := hrel
            have a5 := a4.trans (b4.mono a4.size)
            by_cases hlt2 : m < k
            · have hfl := HFL.out
              have hlz := HLZ.out
              have hown := HVF.out
              have hcs := @World.ownsRow.cells _ _ _ _ _ _ _ hown
              obtain ⟨g, rfl, hgl⟩ : ∃ g, AF = some ⟨g, 0, none⟩ ∧ g < w3.heap.size := by
                rcases hown.2 with ⟨he, h0⟩ | ⟨g, cap, cur, he, _, hg, _⟩
                · omega
                · injection he with h1 _ _
                  exact ⟨g, h1, lt_blk hg⟩
              obtain ⟨f0, f1⟩ := fcells_at fs m (by omega)
              have c0 := hcs (g := g) rfl _ _ f0
              have c1 := hcs (g := g) rfl _ _ f1
              rw [addr_add] at c0 c1
              have d0 := (b4.cell (p := ⟨g, m * 2, none⟩) hgl).trans c0
              have d1 := (b4.cell (p := ⟨g, m * 2 + 1, none⟩) hgl).trans c1
              have htx : fs[m].1 = Hx.hex (zs.getD m ByteArray.empty).data.toList := by
                have h1 : (fs.map (·.1))[m]? = (hexs zs)[m]? := by rw [HFS.out]
                rw [List.getElem?_map, List.getElem?_eq_getElem (by omega), hexs, List.getElem?_map, List.getElem?_eq_getElem (by omega)] at h1
                simp only [Option.map_some] at h1
                injection h1 with h1
                rw [h1, List.getD_eq_getElem?_getD, List.getElem?_eq_getElem (by omega)]
                rfl
              rw [htx] at d0
              obtain ⟨ad, rfl, hal, hc⟩ := (hs.below a5).at_ hlt2
              change wr.cell? (ad.add m) = some (.string (zs.getD m ByteArray.empty)) at hc
              have hzm : (zs.getD m ByteArray.empty).size ≤ 2000 := by
                have h1 : zs.getD m ByteArray.empty ∈ zs := by rw [List.getD_eq_getElem?_getD, List.getElem?_eq_getElem (by omega)]; exact List.getElem_mem _
                have := mem_tot _ zs h1
                have := HT.out
                omega
              generalize (fs[m].2 : Int) = cl at d1
              generalize zs.getD m ByteArray.empty = Z at *
              clear hfl hlz hown hcs f0 f1 c0 c1 htx
              have hzl : Z.data.toList.length = Z.size := by simp
              have hxl := Hx.hex_len Z.data.toList
              have hxs := size_ba (Hx.hex Z.data.toList)
              have hxb : (⟨(Hx.hex Z.data.toList).toArray⟩ : ByteArray).size ≤ 6000 := by omega
              have t1 : (Z.toList != Z.toList) = false := by simp
              clear hzl hxl hxs
              go_wp2_with fail
              refine (unhex_lit ⟨(Hx.hex Z.data.toList).toArray⟩ Z _ (by omega) (Hx.ok_hex _).1 (by rw [(Hx.ok_hex _).2])).mono ?_
              rintro e w4 ⟨rfl, b5⟩
              have b7 : Below wr.heap.size wr w4 := ((Below.refl _ _).alloc (Nat.le_refl _) (.cells #[.string ⟨(Hx.hex Z.data.toList).toArray⟩, .int .i64 cl] 51)).trans (b5.mono (by simp))
              have b6 := b4.trans (b7.mono b4.size)
              have hc' := (b7.cell (p := ad.add m) (by rw [block_of_add]; have := a5.size; omega)).trans hc
              clear d0 d1 hc b5 b7 b4 a5
              go_wp2_with fail
              go_roundw
              case rel => exact ⟨m + 1, by omega, by go_num, b6⟩
              case measure => simp [intOf]; omega
            · go_wp2_with fail
              go_ret
              exact ⟨rfl, a5⟩
theorem walkTopHexed (A : Option Addr) (n c : Nat) (hn : n ≤ maxLen) (zs : List ByteArray) (hlz : zs.length = n) (hz : ∀ k, k < n → (zs.getD k ByteArray.empty).size ≤ reachBytes) (w : World) (hs : Sl w w.heap.size A n (fun i => .string (zs.getD i ByteArray.empty))) :
    Calls Try.prog 5 #[.slice A n c] w fun e w' => e = .returned (.bool true) ∧ Below w.heap.size w w' :=
  topHexed_any A n c (by unfold maxLen at hn; omega) zs hlz (fun k hk => by have := hz k hk; unfold reachBytes at this; omega) w hs
end Go.Proofs.Ytheakfhcllgndaa
