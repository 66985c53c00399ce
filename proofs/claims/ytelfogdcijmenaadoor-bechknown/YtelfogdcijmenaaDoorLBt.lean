/- The law BechBits. -/
import Derived.Test.YtelfogdcijmenaaDoorRBits
import Derived.Test.YtelfogdcijmenaaDoorWork
namespace Go.Proofs.YtelfogdcijmenaaDoor
open Go.RowKit

theorem bits_all (b : Bs) (v : Value) (f t : Int) (pad : Bool) (w : World) (hs : Sl w v b) (hm : b.length ≤ 1000000000) :
    Calls Tryd.prog 14 #[v, .int .i64 f, .int .i64 t, .bool pad] w fun e w' => ∃ ao cap, e = cutted ao cap (bitsR b f t pad) ∧ w'.ownsRow w.heap.size 5 1 (.slice ao (bitsR b f t pad).1.length cap) (bitsR b f t pad).1.length (bcs (bitsR b f t pad).1) ∧ Below w.heap.size w w' := by
  by_cases h : f < 1 ∨ 8 < f ∨ t < 1 ∨ 8 < t
  · rw [bits_arg h]
    refine (bits_bad b v f t pad w hs h).mono ?_
    rintro e w1 ⟨rfl, hb⟩
    exact ⟨none, 0, rfl, own_none _ _, hb⟩
  · have e : bitsR b f t pad = bitsB b f.toNat t.toNat pad := by unfold bitsR; rw [if_neg h]
    rw [e]
    have h1 := bits_good b v f.toNat t.toNat pad w hs ⟨by omega, by omega⟩ ⟨by omega, by omega⟩ hm
    have e1 : ((f.toNat : Nat) : Int) = f := by omega
    have e2 : ((t.toNat : Nat) : Int) = t := by omega
    rw [e1, e2] at h1
    exact h1
theorem rbits_all (b : Bs) (v : Value) (f t : Int) (pad : Bool) (w : World) (hs : Sl w v b) (hm : b.length ≤ 1000000000) :
    Calls Tryd.prog 15 #[v, .int .i64 f, .int .i64 t, .bool pad] w fun e w' => ∃ ao cap, e = cutted ao cap (bitsR b f t pad) ∧ Sl w' (.slice ao (bitsR b f t pad).1.length cap) (bitsR b f t pad).1 ∧ Below w.heap.size w w' := by
  by_cases h : f < 1 ∨ 8 < f ∨ t < 1 ∨ 8 < t
  · rw [bits_arg h]
    refine (rbits_bad b v f t pad w hs h).mono ?_
    rintro e w1 ⟨rfl, hb⟩
    exact ⟨none, 0, rfl, Sl.nil _, hb⟩
  · have e : bitsR b f t pad = bitsB b f.toNat t.toNat pad := by unfold bitsR; rw [if_neg h]
    rw [e]
    have h1 := rbits_good b v f.toNat t.toNat pad w hs ⟨by omega, by omega⟩ ⟨by omega, by omega⟩ hm
    have e1 : ((f.toNat : Nat) : Int) = f := by omega
    have e2 : ((t.toNat : Nat) : Int) = t := by omega
    rw [e1, e2] at h1
    exact h1
theorem bitsR_len (b : Bs) (f t : Int) (pad : Bool) (hm : b.length ≤ 2000) : (bitsR b f t pad).1.length ≤ 1000000 := by
  unfold bitsR
  split
  · simp
  · rename_i h
    have h1 := cut_le t.toNat (rowB f.toNat b)
    rw [row_len] at h1
    have h2 : f.toNat * b.length ≤ 8 * 2000 := Nat.mul_le_mul (by omega) hm
    unfold bitsB
    split
    · simp
    · split
      · split
        · simp only
          omega
        · simp only [List.length_append, List.length_cons, List.length_nil]
          omega
      · split
        · simp
        · simp only
          omega
set_option maxRecDepth 100000 in
set_option maxHeartbeats 8000000 in
theorem bitslaw_any (b : Bs) (v : Value) (f t : Int) (pad : Bool) (w : World) (hs : Sl w v b) (hx : Mx w) :
    Calls Tryd.prog 5 #[v, .int .i64 f, .int .i64 t, .bool pad] w fun e w' => e = .returned (.bool true) ∧ Below w.heap.size w w' := by
  have HS := hid hs
  have HX := hid hx
  obtain ⟨av, cv, rfl⟩ := hs.shape
  have HW := hid (fun W (hb : Below w.heap.size w W) => works_any W (hx.below hb))
  have HW0 := hid (works_any w hx)
  obtain ⟨n, hn⟩ : ∃ n, n = b.length := ⟨_, rfl⟩
  rw [← hn]
  have HN := hid hn
  clear hs hx hn
  by_cases hn2 : 2000 < n
  · have hc : (2000 : Int) < (n : Int) := by omega
    go_enter Tryd.func5, Tryd.ntmps5
    go_wp2_with fail
    refine HW0.out.mono ?_
    rintro e w1 ⟨rfl, hb⟩
    have HB := hid hb
    clear hb
    go_wp2_with fail
    go_ret
    exact ⟨rfl, HB.out⟩
  · have hc : ¬ (2000 : Int) < (n : Int) := by omega
    have q0 := HS.out.string
    obtain ⟨c1, w1, q1, ho1, hb1⟩ := text_bytes w b (by rw [← HN.out]; omega)
    rw [← HN.out] at q0 q1 ho1
    have HB1 := hid hb1
    have HS1 := hid ho1.sl
    have HLE := hid (bitsR_len b f t pad (by rw [← HN.out]; omega))
    have HBT := hid (bits_all b _ f t pad w1 ho1.sl (by rw [← HN.out]; omega))
    have HRB := hid (fun W (hb : Below w.heap.size w W) => rbits_all b _ f t pad W (HS.out.below hb) (by rw [← HN.out]; omega))
    rw [← HN.out] at HRB
    generalize hen : bitsR b f t pad = en at *
    obtain ⟨xs, er⟩ := en
    simp only [cutted] at HBT HRB HLE
    obtain ⟨m, hm⟩ : ∃ m, m = xs.length := ⟨_, rfl⟩
    rw [← hm] at HBT HRB HLE
    have HM := hid hm
    have hm6 : m ≤ 1000000 := HLE.out
    clear hen ho1 hb1 hm
    go_enter Tryd.func5, Tryd.ntmps5
    go_wp2_with fail
    refine HBT.out.mono ?_
    rintro e w2 ⟨a2, c2, rfl, ho2, hb2⟩
    have HB2 := hid (two_below HB1.out hb2)
    have HBa := hid hb2
    have HO2 := hid ho2
    clear ho2 hb2 HBT q0 q1
    go_wp2_with fail
    refine (HRB.out w2 HB2.out).mono ?_
    rintro e w3 ⟨a3, c3, rfl, hs3, hb3⟩
    have HB3 := hid (two_below HB2.out hb3)
    have HO3 := hid (ownsRow_same HO2.out (fun g hg => hb3.block g (HO2.out.lt g hg).2))
    have k1 := (Sl.own HO3.out HM.out).string
    have k2 := hs3.string
    have HBW := hid (two_below HBa.out hb3)
    clear hs3 hb3 HRB
    go_wp2_with fail
    clear k1 k2
    have HBL : Hid (∀ gx, (Value.slice a2 m c2).ownBlock = some gx → ∃ cur, w3.heap[gx]? = some (.cells cur 5 (0, 0)) ∧ m ≤ cur.size) := hid (fun gx hgx => by
      rcases HO3.out.2 with ⟨h1, _⟩ | ⟨g, cap, cur, h1, h2, h3, h4, h5, h6, h7⟩
      · rw [h1] at hgx; cases hgx
      · rw [h1] at hgx
        cases hgx
        exact ⟨cur, h3, by omega⟩)
    have HSH : Hid (0 < m → ∃ gx, a2 = some ⟨gx, 0, none⟩ ∧ w1.heap.size ≤ gx ∧ m ≤ c2) := hid (fun h0 => by
      rcases HO3.out.2 with ⟨h1, h2⟩ | ⟨g, cap, cur, h1, h2, h3, h4, _⟩
      · omega
      · cases h1
        exact ⟨g, rfl, h2, h4⟩)
    clear HO3 HO2 HB3 HB2 HBa
    go_loopg [14] m (fun gg v14 wr => ∃ i : Nat, i ≤ m ∧ gg = m - i ∧ v14 = .int .i64 (i : Int) ∧ (∀ gx, (Value.slice a2 m c2).ownBlock = some gx → ∃ cur, wr.heap[gx]? = some (.cells cur 5 (0, 0)) ∧ m ≤ cur.size) ∧ Below w1.heap.size w1 wr)
    case atStart => exact ⟨0, by omega, by omega, rfl, HBL.out, HBW.out⟩
    case round =>
      obtain ⟨i, hi, rfl, rfl, hbl, hbel⟩ := hrel
      clear HBL HBW
      by_cases him : i < m
      · have hi1 : (i : Int) < (m : Int) := by omega
        obtain ⟨gx, rfl, hgx, hcap⟩ := HSH.out (by omega)
        obtain ⟨cur, hcur, hsz⟩ := hbl gx rfl
        have hce : wr.cell? ⟨gx, i, none⟩ = some (cur[i]'(by omega)) := by rw [cell_of_heap hcur]; exact Array.getElem?_eq_getElem (by omega)
        have hfz := frozen_of_heap hcur i
        generalize cur[i]'(by omega) = old at hce
        have HSE : Hid (∀ g2, (Value.slice (some ⟨gx, 0, none⟩) m c2).ownBlock = some g2 → ∃ cur, (wr.setCell ⟨gx, i, none⟩ (.int .u8 238)).heap[g2]? = some (.cells cur 5 (0, 0)) ∧ m ≤ cur.size) := hid (fun g2 hg2 => by
          cases hg2
          exact ⟨_, heap_setCell_same hcur i _, by simpa using hsz⟩)
        have HB4 := hid (below_set hbel hgx i (.int .u8 238))
        clear hbl hbel hcur hsz
        go_wp2_with fail
        go_roundg (m - (i + 1))
        case measure => omega
        case rel => exact ⟨i + 1, by omega, rfl, by go_num, HSE.out, HB4.out⟩
      · have hi1 : ¬ (i : Int) < (m : Int) := by omega
        have HB4 := hid (two_below HB1.out hbel)
        have k3 := (HS1.out.below hbel).string
        have k4 := (HS.out.below HB4.out).string
        rw [← HN.out] at k4
        clear hbl hbel
        go_wp2_with fail
        refine (HW.out _ HB4.out).mono ?_
        rintro e w4 ⟨rfl, hb⟩
        have HB := hid (two_below HB4.out hb)
        clear hb
        go_wp2_with fail
        go_ret
        exact ⟨rfl, HB.out⟩
end Go.Proofs.YtelfogdcijmenaaDoor
