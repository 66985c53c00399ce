/- DeleteFunc: the walk. -/
import Derived.Test.YtojnembakhhgiaaGreatOndAll
namespace Go.Proofs.YtojnembakhhgiaaGreat
open Go.RowKit

theorem store_there {w : World} {b o : Nat} {vs : List Value} (ht : w.there b o vs.length) (h1 : ∀ v ∈ vs, v.oneCell' = true) : (storeCells ⟨b, o, none⟩ vs).run Tryz.prog w = .ok () (w.setCells b o vs) :=
  run_storeCells_cells (P := Tryz.prog) b o vs 0 w (fun j hj => (ht j hj).1) (fun j hj => (ht j hj).2) h1
set_option maxRecDepth 100000 in
set_option maxHeartbeats 8000000 in
theorem delete_any (w : World) (F : List Nat) (xs : Nat) (P : Dw → Bool) (ov : Value) (ws : List Dw) (hrow : w.ownsRow 0 87 258 ov ws.length (wcs ws)) (hwg : ∀ x ∈ ws, x.pg.length = 256) (hA : Asks F w xs P) (hF : ∀ g ∈ F, g < w.heap.size ∧ g ∉ ob ov) (hws : ws.length ≤ 1000000) :
    Calls Tryz.prog 66 #[ov, .func (.func 67) #[] #[.pointer (some ⟨xs, 0, none⟩)]] w fun e w' => ∃ v', e = .returned v' ∧ w'.ownsRow 0 87 258 v' (ws.filter fun x => !P x).length (wcs (ws.filter fun x => !P x)) ∧ Kf (ob ov) w w' ∧ ∀ g ∈ ob v', g ∈ ob ov := by
  have HIX := hid (index_any w F xs P ov ws hrow hwg hA (fun g hg => (hF g hg).1) hws)
  cases ha : ws.any P with
  | false =>
    have hf : fst P ws = -1 := by unfold fst; rw [ha]; rfl
    rw [hf] at HIX
    have HF : Hid (∀ w1, Below w.heap.size w w1 → w1.ownsRow 0 87 258 ov (ws.filter fun x => !P x).length (wcs (ws.filter fun x => !P x)) ∧ Kf (ob ov) w w1 ∧ ∀ g ∈ ob ov, g ∈ ob ov) := hid (fun w1 hb => by
      rw [filter_none ha]
      exact ⟨ownsRow_same hrow (fun k hk => hb.block k (hrow.lt k hk).2), below_kf hb, fun g hg => hg⟩)
    clear hrow hwg hA hF ha hf hws
    go_enter Tryz.func66, Tryz.ntmps66
    go_wp2_with fail
    refine HIX.out.mono ?_
    rintro e w1 ⟨rfl, hb⟩
    have HB := hid hb
    clear hb
    go_wp2_with fail
    go_ret
    exact ⟨_, rfl, HF.out _ HB.out⟩
  | true =>
    have hlt : ws.findIdx P < ws.length := List.findIdx_lt_length.2 (List.any_eq_true.1 ha)
    obtain ⟨i0, hi0⟩ : ∃ i0, i0 = ws.findIdx P := ⟨_, rfl⟩
    have hf : fst P ws = (i0 : Int) := by unfold fst; rw [ha, hi0]; rfl
    rw [hf] at HIX
    rw [← hi0] at hlt
    obtain ⟨g, cap, hv, hjunk⟩ := write_at hrow hwg i0 hlt
    clear hjunk
    subst hv
    have HST : Hid (∀ w1, Below w.heap.size w w1 → Ld w P ws g cap i0 (i0 + 1) ws w1) := hid (fun w1 hb => by rw [hi0]; exact Ld.start hrow hwg ha hb)
    have HA := hid hA
    have HFF := hid hF
    have HWG := hid hwg
    obtain ⟨n, hn⟩ : ∃ n, n = ws.length := ⟨_, rfl⟩
    have HN := hid hn
    have HNB : Hid (n ≤ 1000000) := hid (by omega)
    have hi1 : ¬ (i0 : Int) = -1 := by omega
    have hi2 : ((i0 : Int) == -1) = false := by simp
    have hiw : IntKind.i64.wrap ((i0 : Int) + 1) = ((i0 + 1 : Nat) : Int) := by rw [IntKind.wrap_i64]; omega
    have hob : ob (Value.slice (some ⟨g, 0, none⟩) ws.length cap) = [g] := rfl
    rw [hob]
    rw [hob] at HFF
    have eg := eg61
    rw [← hn] at HIX
    rw [← hn]
    clear hrow hwg hA hF ha hf hws hlt hi0 hn hob
    go_enter Tryz.func66, Tryz.ntmps66
    go_wp2_with fail
    refine HIX.out.mono ?_
    rintro e w1 ⟨rfl, hb⟩
    have HLD := hid (HST.out w1 hb)
    clear hb
    go_wp2_with fail
    go_loopg [5, 6] (n - (i0 + 1)) (fun gg vi vj wr => ∃ (i j : Nat) (Z : List Dw), gg = n - j ∧ vi = .int .i64 (i : Int) ∧ vj = .int .i64 (j : Int) ∧ Ld w P ws g cap i j Z wr)
    case atStart => exact ⟨i0, i0 + 1, ws, rfl, rfl, rfl, HLD.out⟩
    case round =>
      obtain ⟨i, j, Z, rfl, rfl, rfl, hld⟩ := hrel
      have hle := hld.le
      have hlij := hld.lt
      by_cases hjl : j < ws.length
      · obtain ⟨hzj, hzx⟩ := hld.at' hjl
        obtain ⟨x, hx⟩ : ∃ x, x = ws[j] := ⟨_, rfl⟩
        have hxw : x.pg.length = 256 := by rw [hx]; exact HWG.out _ (List.getElem_mem hjl)
        have hrowZ : wr.ownsRow 0 87 258 (.slice (some ⟨g, 0, none⟩) Z.length cap) Z.length (wcs Z) := by rw [hld.len]; exact hld.row
        obtain ⟨g', cap', hg1, hra0⟩ := write_at hrowZ hld.pg j hzj
        cases hg1
        obtain ⟨cs, hcs⟩ : ∃ cs, cs = wc x := ⟨_, rfl⟩
        have hra : wr.rangeAt g (j * 258) cs := by rw [hcs, hx, ← hzx]; exact hra0
        have hcl : cs.length = 258 := by rw [hcs, wc_len hxw]
        have h1c : ∀ v ∈ cs, v.oneCell' = true := by rw [hcs]; exact wc_one x
        obtain ⟨w2, hstc, hw2, hbw, hzw⟩ := new_write wr cs hcl h1c
        have hra2 : w2.rangeAt wr.heap.size 0 cs := fun k u hu => by rw [cell_of_heap hw2, Nat.zero_add, List.getElem?_toArray]; exact hu
        have hld2 := hld.low hbw
        have HQ := hid (HA.out w2 (fun k hk => (hbw.block k (Nat.lt_of_lt_of_le (HFF.out k hk).1 hld.kf.size)).trans (hld.kf.blk k (HFF.out k hk).1 (HFF.out k hk).2)) x hxw)
        rw [← hcs] at HQ
        have hu1 := Tryz.underlying87
        have hi81 : (Tryz.prog.info? 87).map (·.size) = some cs.length := by rw [size81, hcl]
        have hi81a : (Tryz.prog.info? 87).map (·.size) = some cs.toArray.size := by rw [size81, List.size_toArray, hcl]
        have hjw : IntKind.i64.wrap ((j : Int) + 1) = ((j + 1 : Nat) : Int) := by rw [IntKind.wrap_i64]; have := HNB.out; have := HN.out; omega
        have hiw2 : IntKind.i64.wrap ((i : Int) + 1) = ((i + 1 : Nat) : Int) := by rw [IntKind.wrap_i64]; have := HNB.out; have := HN.out; omega
        have hj0 : (0 : Int) ≤ (j : Int) := Int.natCast_nonneg _
        have hj1 : (j : Int) < (n : Int) := by have := HN.out; omega
        have hii0 : (0 : Int) ≤ (i : Int) := Int.natCast_nonneg _
        have hii1 : (i : Int) < (n : Int) := by have := HN.out; omega
        have HLD2 := hid hld2
        have HBK : Hid (∀ w3, Below w2.heap.size w2 w3 → w3.rangeAt wr.heap.size 0 cs) := hid (fun w3 hb => fun k u hu => by
          rw [← hra2 k u hu]
          exact World.cell?_of_block (hb.block wr.heap.size (by omega)))
        have hpx : P ws[j] = P x := by rw [hx]
        have hwx : wc ws[j] = cs := by rw [hcs, hx]
        have hqx : ws[j].pg.length = 256 := by rw [← hx]; exact hxw
        have HSK : Hid (P x = true → ∀ w3, Below w2.heap.size w2 w3 → Ld w P ws g cap i (j + 1) Z w3) := hid (fun hp w3 hb => (hld2.low hb).skip hjl (by rw [hpx]; exact hp))
        have HKE : Hid (P x = false → ∀ w3, Below w2.heap.size w2 w3 → w3.there g (i * 258) 258 ∧ ∃ Z', Ld w P ws g cap (i + 1) (j + 1) Z' (w3.setCells g (i * 258) cs)) := hid (fun hp w3 hb => by
          have := (hld2.low hb).keep hjl (by rw [hpx]; exact hp) hqx
          rw [hwx] at this
          exact ⟨this.1, _, this.2⟩)
        have HJ := hid hjl
        clear hld hle hlij hzx hra0 hcs hw2 hbw hld2 hpx hwx hqx hrowZ hx hxw hi1
        cases hP : P x with
        | true =>
          rw [hP] at HQ
          have HS2 := hid (HSK.out hP)
          clear hP hjl
          go_wp2_with fail
          refine wp_load_mid 87 (.tmp 24) rfl g (j * 258) rfl cs _ hra hu1 rfl hi81 ?_
          go_wp2_with fail
          refine wp_load_mid 87 (.tmp 7) rfl wr.heap.size 0 rfl cs _ hra2 hu1 rfl hi81 ?_
          go_wp2_with fail
          refine HQ.out.mono ?_
          rintro e w3 ⟨rfl, hb⟩
          have HL3 := hid (HS2.out w3 hb)
          clear hb
          go_wp2_with fail
          go_roundg (n - (j + 1))
          case measure => have := HJ.out; have := HN.out; omega
          case rel => exact ⟨i, j + 1, Z, rfl, rfl, rfl, HL3.out⟩
        | false =>
          rw [hP] at HQ
          have HS2 := hid (HKE.out hP)
          clear hP hjl
          go_wp2_with fail
          refine wp_load_mid 87 (.tmp 24) rfl g (j * 258) rfl cs _ hra hu1 rfl hi81 ?_
          go_wp2_with fail
          refine wp_load_mid 87 (.tmp 7) rfl wr.heap.size 0 rfl cs _ hra2 hu1 rfl hi81 ?_
          go_wp2_with fail
          refine HQ.out.mono ?_
          rintro e w3 ⟨rfl, hb⟩
          have hra3 := HBK.out w3 hb
          obtain ⟨hth, Z', hld3⟩ := HS2.out w3 hb
          have hsc := store_there (by rw [hcl]; exact hth) h1c
          have HL3 := hid hld3
          clear hb hld3
          go_wp2_with fail
          refine wp_load_mid 87 (.tmp 7) rfl wr.heap.size 0 rfl cs _ hra3 hu1 rfl hi81 ?_
          go_wp2_with fail
          go_roundg (n - (j + 1))
          case measure => have := HJ.out; have := HN.out; omega
          case rel => exact ⟨i + 1, j + 1, Z', rfl, rfl, rfl, HL3.out⟩
      · have hje : j = ws.length := by omega
        subst hje
        have hrowZ : wr.ownsRow 0 87 258 (.slice (some ⟨g, 0, none⟩) Z.length cap) Z.length (wcs Z) := by rw [hld.len]; exact hld.row
        obtain ⟨w4, hcl, hrow4, hk4⟩ := clear_run hrowZ hld.pg i (by rw [hld.len]; exact hlij)
        rw [hld.len, ← HN.out] at hcl
        have hkz : Z.take i = ws.filter fun x => !P x := by
          rw [hld.kept, List.take_length]
        have hil : (ws.filter fun x => !P x).length = i := by
          rw [← hkz, List.length_take, hld.len]
          omega
        have HF : Hid (w4.ownsRow 0 87 258 (.slice (some ⟨g, 0, none⟩) i cap) (ws.filter fun x => !P x).length (wcs (ws.filter fun x => !P x)) ∧ Kf [g] w w4 ∧ ∀ k ∈ ob (Value.slice (some ⟨g, 0, none⟩) i cap), k ∈ [g]) := hid (by
          rw [hil, ← hkz]
          exact ⟨hrow4, hld.kf.trans hk4 (fun k hk => .inl hk), fun k hk => hk⟩)
        have hcapn : n ≤ cap := by
          rcases hld.row.2 with ⟨h1, _⟩ | ⟨_, _, _, h1, _, _, h4, _⟩
          · cases h1
          · cases h1
            have := HN.out
            omega
        have hjn : ¬ ((ws.length : Nat) : Int) < (n : Int) := by have := HN.out; omega
        have hii0 : (0 : Int) ≤ (i : Int) := Int.natCast_nonneg _
        have hii1 : (i : Int) < (n : Int) := by have := HN.out; omega
        have hii2 : (i : Int) ≤ (n : Int) := by omega
        have hii3 : (n : Int) ≤ (cap : Int) := by omega
        have hii4 : (i : Int) ≤ (cap : Int) := by omega
        have hne : ¬ i = cap := by omega
        clear hld hle hlij hjl hrowZ hrow4 hk4 hkz hil hi1
        go_wp2_with fail
        go_ret
        exact ⟨_, rfl, HF.out.1, HF.out.2.1, fun k hk => by simpa using HF.out.2.2 k hk⟩
end Go.Proofs.YtojnembakhhgiaaGreat
