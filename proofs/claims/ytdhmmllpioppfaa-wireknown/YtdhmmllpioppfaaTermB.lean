/- What the reader's reading of a term does: some of the forms. -/
import Derived.Test.YtdhmmllpioppfaaTermA
namespace Go.Proofs.Ytdhmmllpioppfaa
open Go.RowKit

set_option maxHeartbeats 1000000 in
theorem term_72 {n : Nat} (hK : KidC n) : TermAt n 72 := by
  intro w0 B b s lv kp a nn tx ks w h hl hB ha hc
  have hsz := h.sz
  have hlv := h.lvb
  have hka := h.kl
  obtain ⟨c0, c1, c2, c3, hf⟩ := h.cells
  have HR := hid h
  have HB0 := hid hB
  have e110 : ((s[a].toNat : Int) == 110) = false := by simp [hc]
  have e116 : ((s[a].toNat : Int) == 116) = false := by simp [hc]
  have e84 : ((s[a].toNat : Int) == 84) = false := by simp [hc]
  have e80 : ((s[a].toNat : Int) == 80) = false := by simp [hc]
  have e72 : ((s[a].toNat : Int) == 72) = true := by simp [hc]
  have e83 : ((s[a].toNat : Int) == 83) = false := by simp [hc]
  have e66 : ((s[a].toNat : Int) == 66) = false := by simp [hc]
  have e68 : ((s[a].toNat : Int) == 68) = false := by simp [hc]
  have e86 : ((s[a].toNat : Int) == 86) = false := by simp [hc]
  have e75 : ((s[a].toNat : Int) == 75) = false := by simp [hc]
  have e88 : ((s[a].toNat : Int) == 88) = false := by simp [hc]
  have e87 : ((s[a].toNat : Int) == 87) = false := by simp [hc]
  have e76 : ((s[a].toNat : Int) == 76) = false := by simp [hc]
  have hend : ((a : Int) == (s.size : Int)) = false := by simp; omega
  have hl64 : ((lv : Int) == 64) = false := by simp; omega
  have HRD : Hid (Tm.rd (n + 1) (rest s a) = (Tm.oneA (Tm.rd n)) (rest s (a + 1))) := by
    apply hid; rw [rest_cons ha, Tm.rd_cons, hc]; rfl
  have HS : Hid (setN (rest s a) nn = nn ∧ setX (rest s a) tx = tx ∧ Tm.kidsOf n (rest s a) = (Tm.kids1 (Tm.rd n)) (rest s (a + 1))) := by
    apply hid; rw [rest_cons ha, hc]; exact ⟨rfl, rfl, rfl⟩
  clear h hB hc
  go_enter Try.func81, Try.ntmps81
  go_wp2_with fail
  go_quiet (fail)
  go_wp2_with fail
  go_quiet (fail)
  go_wp2_with fail
  refine (one_any hK (w0 := w0) (B := B) (s := s) (lv := lv + 1) (kp := kp) (a := a + 1) (nn := nn) (tx := tx) (ks := ks) (RS.setLv (RS.setAt (by first | exact (HR.out.drewN _) | exact ((HR.out.drewN _).drewN _)) (by omega) (by omega) _ (by simp)) (by omega) _ (by simp)) (by omega) HB0.out).mono ?_
  rintro e w1 hE
  have HE := hid hE
  clear hE
  cases hr : (Tm.oneA (Tm.rd n)) (rest s (a + 1)) with
  | none =>
    have H1 := hid hr
    clear hr
    obtain ⟨rfl, hb⟩ := HE.out.none H1.out
    obtain ⟨g2, f2⟩ := hb.cell
    have HB := hid hb
    clear hb
    have g2' : w1.cell? ⟨b, 2, none⟩ = some (.int .i64 ((lv : Int) + 1)) := by rw [g2]; simp
    clear g2
    go_wp2_with fail
    go_ret
    exact ends_none (HRD.out.trans H1.out) ⟨rfl, HB.out.setLv (by omega) _ (by simp)⟩
  | some x =>
    have H1 := hid hr
    clear hr
    obtain ⟨rfl, hb⟩ := HE.out.some H1.out
    obtain ⟨_, _, g2, _, f2⟩ := hb.cells
    have HB := hid hb
    clear hb
    have g2' : w1.cell? ⟨b, 2, none⟩ = some (.int .i64 ((lv : Int) + 1)) := by rw [g2]; simp
    clear g2
    go_wp2_with fail
    go_ret
    refine ends_some (HRD.out.trans H1.out) ⟨rfl, ?_⟩
    rw [HS.out.1, HS.out.2.1, HS.out.2.2]
    exact HB.out.setLv (by omega) _ (by simp)

set_option maxHeartbeats 1000000 in
theorem term_83 {n : Nat} (hK : KidC n) : TermAt n 83 := by
  intro w0 B b s lv kp a nn tx ks w h hl hB ha hc
  have hsz := h.sz
  have hlv := h.lvb
  have hka := h.kl
  obtain ⟨c0, c1, c2, c3, hf⟩ := h.cells
  have HR := hid h
  have HB0 := hid hB
  have e110 : ((s[a].toNat : Int) == 110) = false := by simp [hc]
  have e116 : ((s[a].toNat : Int) == 116) = false := by simp [hc]
  have e84 : ((s[a].toNat : Int) == 84) = false := by simp [hc]
  have e80 : ((s[a].toNat : Int) == 80) = false := by simp [hc]
  have e72 : ((s[a].toNat : Int) == 72) = false := by simp [hc]
  have e83 : ((s[a].toNat : Int) == 83) = true := by simp [hc]
  have e66 : ((s[a].toNat : Int) == 66) = false := by simp [hc]
  have e68 : ((s[a].toNat : Int) == 68) = false := by simp [hc]
  have e86 : ((s[a].toNat : Int) == 86) = false := by simp [hc]
  have e75 : ((s[a].toNat : Int) == 75) = false := by simp [hc]
  have e88 : ((s[a].toNat : Int) == 88) = false := by simp [hc]
  have e87 : ((s[a].toNat : Int) == 87) = false := by simp [hc]
  have e76 : ((s[a].toNat : Int) == 76) = false := by simp [hc]
  have hend : ((a : Int) == (s.size : Int)) = false := by simp; omega
  have hl64 : ((lv : Int) == 64) = false := by simp; omega
  have HRD : Hid (Tm.rd (n + 1) (rest s a) = (Tm.two2 (Tm.rd n)) (rest s (a + 1))) := by
    apply hid; rw [rest_cons ha, Tm.rd_cons, hc]; rfl
  have HS : Hid (setN (rest s a) nn = nn ∧ setX (rest s a) tx = tx ∧ Tm.kidsOf n (rest s a) = (Tm.kids2 (Tm.rd n)) (rest s (a + 1))) := by
    apply hid; rw [rest_cons ha, hc]; exact ⟨rfl, rfl, rfl⟩
  clear h hB hc
  go_enter Try.func81, Try.ntmps81
  go_wp2_with fail
  go_quiet (fail)
  go_wp2_with fail
  go_quiet (fail)
  go_wp2_with fail
  refine (two_any (pair_any hK) (w0 := w0) (B := B) (s := s) (lv := lv + 1) (kp := kp) (a := a + 1) (nn := nn) (tx := tx) (ks := ks) (RS.setLv (RS.setAt (by first | exact (HR.out.drewN _) | exact ((HR.out.drewN _).drewN _)) (by omega) (by omega) _ (by simp)) (by omega) _ (by simp)) (by omega) HB0.out).mono ?_
  rintro e w1 hE
  have HE := hid hE
  clear hE
  cases hr : (Tm.two2 (Tm.rd n)) (rest s (a + 1)) with
  | none =>
    have H1 := hid hr
    clear hr
    obtain ⟨rfl, hb⟩ := HE.out.none H1.out
    obtain ⟨g2, f2⟩ := hb.cell
    have HB := hid hb
    clear hb
    have g2' : w1.cell? ⟨b, 2, none⟩ = some (.int .i64 ((lv : Int) + 1)) := by rw [g2]; simp
    clear g2
    go_wp2_with fail
    go_ret
    exact ends_none (HRD.out.trans H1.out) ⟨rfl, HB.out.setLv (by omega) _ (by simp)⟩
  | some x =>
    have H1 := hid hr
    clear hr
    obtain ⟨rfl, hb⟩ := HE.out.some H1.out
    obtain ⟨_, _, g2, _, f2⟩ := hb.cells
    have HB := hid hb
    clear hb
    have g2' : w1.cell? ⟨b, 2, none⟩ = some (.int .i64 ((lv : Int) + 1)) := by rw [g2]; simp
    clear g2
    go_wp2_with fail
    go_ret
    refine ends_some (HRD.out.trans H1.out) ⟨rfl, ?_⟩
    rw [HS.out.1, HS.out.2.1, HS.out.2.2]
    exact HB.out.setLv (by omega) _ (by simp)

set_option maxHeartbeats 1000000 in
theorem term_66 {n : Nat} (hK : KidC n) : TermAt n 66 := by
  intro w0 B b s lv kp a nn tx ks w h hl hB ha hc
  have hsz := h.sz
  have hlv := h.lvb
  have hka := h.kl
  obtain ⟨c0, c1, c2, c3, hf⟩ := h.cells
  have HR := hid h
  have HB0 := hid hB
  have e110 : ((s[a].toNat : Int) == 110) = false := by simp [hc]
  have e116 : ((s[a].toNat : Int) == 116) = false := by simp [hc]
  have e84 : ((s[a].toNat : Int) == 84) = false := by simp [hc]
  have e80 : ((s[a].toNat : Int) == 80) = false := by simp [hc]
  have e72 : ((s[a].toNat : Int) == 72) = false := by simp [hc]
  have e83 : ((s[a].toNat : Int) == 83) = false := by simp [hc]
  have e66 : ((s[a].toNat : Int) == 66) = true := by simp [hc]
  have e68 : ((s[a].toNat : Int) == 68) = false := by simp [hc]
  have e86 : ((s[a].toNat : Int) == 86) = false := by simp [hc]
  have e75 : ((s[a].toNat : Int) == 75) = false := by simp [hc]
  have e88 : ((s[a].toNat : Int) == 88) = false := by simp [hc]
  have e87 : ((s[a].toNat : Int) == 87) = false := by simp [hc]
  have e76 : ((s[a].toNat : Int) == 76) = false := by simp [hc]
  have hend : ((a : Int) == (s.size : Int)) = false := by simp; omega
  have hl64 : ((lv : Int) == 64) = false := by simp; omega
  have HRD : Hid (Tm.rd (n + 1) (rest s a) = (Tm.two2 (Tm.rd n)) (rest s (a + 1))) := by
    apply hid; rw [rest_cons ha, Tm.rd_cons, hc]; rfl
  have HS : Hid (setN (rest s a) nn = nn ∧ setX (rest s a) tx = tx ∧ Tm.kidsOf n (rest s a) = (Tm.kids2 (Tm.rd n)) (rest s (a + 1))) := by
    apply hid; rw [rest_cons ha, hc]; exact ⟨rfl, rfl, rfl⟩
  clear h hB hc
  go_enter Try.func81, Try.ntmps81
  go_wp2_with fail
  go_quiet (fail)
  go_wp2_with fail
  go_quiet (fail)
  go_wp2_with fail
  refine (two_any (pair_any hK) (w0 := w0) (B := B) (s := s) (lv := lv + 1) (kp := kp) (a := a + 1) (nn := nn) (tx := tx) (ks := ks) (RS.setLv (RS.setAt (by first | exact (HR.out.drewN _) | exact ((HR.out.drewN _).drewN _)) (by omega) (by omega) _ (by simp)) (by omega) _ (by simp)) (by omega) HB0.out).mono ?_
  rintro e w1 hE
  have HE := hid hE
  clear hE
  cases hr : (Tm.two2 (Tm.rd n)) (rest s (a + 1)) with
  | none =>
    have H1 := hid hr
    clear hr
    obtain ⟨rfl, hb⟩ := HE.out.none H1.out
    obtain ⟨g2, f2⟩ := hb.cell
    have HB := hid hb
    clear hb
    have g2' : w1.cell? ⟨b, 2, none⟩ = some (.int .i64 ((lv : Int) + 1)) := by rw [g2]; simp
    clear g2
    go_wp2_with fail
    go_ret
    exact ends_none (HRD.out.trans H1.out) ⟨rfl, HB.out.setLv (by omega) _ (by simp)⟩
  | some x =>
    have H1 := hid hr
    clear hr
    obtain ⟨rfl, hb⟩ := HE.out.some H1.out
    obtain ⟨_, _, g2, _, f2⟩ := hb.cells
    have HB := hid hb
    clear hb
    have g2' : w1.cell? ⟨b, 2, none⟩ = some (.int .i64 ((lv : Int) + 1)) := by rw [g2]; simp
    clear g2
    go_wp2_with fail
    go_ret
    refine ends_some (HRD.out.trans H1.out) ⟨rfl, ?_⟩
    rw [HS.out.1, HS.out.2.1, HS.out.2.2]
    exact HB.out.setLv (by omega) _ (by simp)

set_option maxHeartbeats 1000000 in
theorem term_68 {n : Nat} (hK : KidC n) : TermAt n 68 := by
  intro w0 B b s lv kp a nn tx ks w h hl hB ha hc
  have hsz := h.sz
  have hlv := h.lvb
  have hka := h.kl
  obtain ⟨c0, c1, c2, c3, hf⟩ := h.cells
  have HR := hid h
  have HB0 := hid hB
  have e110 : ((s[a].toNat : Int) == 110) = false := by simp [hc]
  have e116 : ((s[a].toNat : Int) == 116) = false := by simp [hc]
  have e84 : ((s[a].toNat : Int) == 84) = false := by simp [hc]
  have e80 : ((s[a].toNat : Int) == 80) = false := by simp [hc]
  have e72 : ((s[a].toNat : Int) == 72) = false := by simp [hc]
  have e83 : ((s[a].toNat : Int) == 83) = false := by simp [hc]
  have e66 : ((s[a].toNat : Int) == 66) = false := by simp [hc]
  have e68 : ((s[a].toNat : Int) == 68) = true := by simp [hc]
  have e86 : ((s[a].toNat : Int) == 86) = false := by simp [hc]
  have e75 : ((s[a].toNat : Int) == 75) = false := by simp [hc]
  have e88 : ((s[a].toNat : Int) == 88) = false := by simp [hc]
  have e87 : ((s[a].toNat : Int) == 87) = false := by simp [hc]
  have e76 : ((s[a].toNat : Int) == 76) = false := by simp [hc]
  have hend : ((a : Int) == (s.size : Int)) = false := by simp; omega
  have hl64 : ((lv : Int) == 64) = false := by simp; omega
  have HRD : Hid (Tm.rd (n + 1) (rest s a) = (Tm.two2 (Tm.rd n)) (rest s (a + 1))) := by
    apply hid; rw [rest_cons ha, Tm.rd_cons, hc]; rfl
  have HS : Hid (setN (rest s a) nn = nn ∧ setX (rest s a) tx = tx ∧ Tm.kidsOf n (rest s a) = (Tm.kids2 (Tm.rd n)) (rest s (a + 1))) := by
    apply hid; rw [rest_cons ha, hc]; exact ⟨rfl, rfl, rfl⟩
  clear h hB hc
  go_enter Try.func81, Try.ntmps81
  go_wp2_with fail
  go_quiet (fail)
  go_wp2_with fail
  go_quiet (fail)
  go_wp2_with fail
  refine (two_any (pair_any hK) (w0 := w0) (B := B) (s := s) (lv := lv + 1) (kp := kp) (a := a + 1) (nn := nn) (tx := tx) (ks := ks) (RS.setLv (RS.setAt (by first | exact (HR.out.drewN _) | exact ((HR.out.drewN _).drewN _)) (by omega) (by omega) _ (by simp)) (by omega) _ (by simp)) (by omega) HB0.out).mono ?_
  rintro e w1 hE
  have HE := hid hE
  clear hE
  cases hr : (Tm.two2 (Tm.rd n)) (rest s (a + 1)) with
  | none =>
    have H1 := hid hr
    clear hr
    obtain ⟨rfl, hb⟩ := HE.out.none H1.out
    obtain ⟨g2, f2⟩ := hb.cell
    have HB := hid hb
    clear hb
    have g2' : w1.cell? ⟨b, 2, none⟩ = some (.int .i64 ((lv : Int) + 1)) := by rw [g2]; simp
    clear g2
    go_wp2_with fail
    go_ret
    exact ends_none (HRD.out.trans H1.out) ⟨rfl, HB.out.setLv (by omega) _ (by simp)⟩
  | some x =>
    have H1 := hid hr
    clear hr
    obtain ⟨rfl, hb⟩ := HE.out.some H1.out
    obtain ⟨_, _, g2, _, f2⟩ := hb.cells
    have HB := hid hb
    clear hb
    have g2' : w1.cell? ⟨b, 2, none⟩ = some (.int .i64 ((lv : Int) + 1)) := by rw [g2]; simp
    clear g2
    go_wp2_with fail
    go_ret
    refine ends_some (HRD.out.trans H1.out) ⟨rfl, ?_⟩
    rw [HS.out.1, HS.out.2.1, HS.out.2.2]
    exact HB.out.setLv (by omega) _ (by simp)

set_option maxHeartbeats 1000000 in
theorem term_86 {n : Nat} (hK : KidC n) : TermAt n 86 := by
  intro w0 B b s lv kp a nn tx ks w h hl hB ha hc
  have hsz := h.sz
  have hlv := h.lvb
  have hka := h.kl
  obtain ⟨c0, c1, c2, c3, hf⟩ := h.cells
  have HR := hid h
  have HB0 := hid hB
  have e110 : ((s[a].toNat : Int) == 110) = false := by simp [hc]
  have e116 : ((s[a].toNat : Int) == 116) = false := by simp [hc]
  have e84 : ((s[a].toNat : Int) == 84) = false := by simp [hc]
  have e80 : ((s[a].toNat : Int) == 80) = false := by simp [hc]
  have e72 : ((s[a].toNat : Int) == 72) = false := by simp [hc]
  have e83 : ((s[a].toNat : Int) == 83) = false := by simp [hc]
  have e66 : ((s[a].toNat : Int) == 66) = false := by simp [hc]
  have e68 : ((s[a].toNat : Int) == 68) = false := by simp [hc]
  have e86 : ((s[a].toNat : Int) == 86) = true := by simp [hc]
  have e75 : ((s[a].toNat : Int) == 75) = false := by simp [hc]
  have e88 : ((s[a].toNat : Int) == 88) = false := by simp [hc]
  have e87 : ((s[a].toNat : Int) == 87) = false := by simp [hc]
  have e76 : ((s[a].toNat : Int) == 76) = false := by simp [hc]
  have hend : ((a : Int) == (s.size : Int)) = false := by simp; omega
  have hl64 : ((lv : Int) == 64) = false := by simp; omega
  have HRD : Hid (Tm.rd (n + 1) (rest s a) = (Tm.two2 (Tm.rd n)) (rest s (a + 1))) := by
    apply hid; rw [rest_cons ha, Tm.rd_cons, hc]; rfl
  have HS : Hid (setN (rest s a) nn = nn ∧ setX (rest s a) tx = tx ∧ Tm.kidsOf n (rest s a) = (Tm.kids2 (Tm.rd n)) (rest s (a + 1))) := by
    apply hid; rw [rest_cons ha, hc]; exact ⟨rfl, rfl, rfl⟩
  clear h hB hc
  go_enter Try.func81, Try.ntmps81
  go_wp2_with fail
  go_quiet (fail)
  go_wp2_with fail
  go_quiet (fail)
  go_wp2_with fail
  refine (two_any (pair_any hK) (w0 := w0) (B := B) (s := s) (lv := lv + 1) (kp := kp) (a := a + 1) (nn := nn) (tx := tx) (ks := ks) (RS.setLv (RS.setAt (by first | exact (HR.out.drewN _) | exact ((HR.out.drewN _).drewN _)) (by omega) (by omega) _ (by simp)) (by omega) _ (by simp)) (by omega) HB0.out).mono ?_
  rintro e w1 hE
  have HE := hid hE
  clear hE
  cases hr : (Tm.two2 (Tm.rd n)) (rest s (a + 1)) with
  | none =>
    have H1 := hid hr
    clear hr
    obtain ⟨rfl, hb⟩ := HE.out.none H1.out
    obtain ⟨g2, f2⟩ := hb.cell
    have HB := hid hb
    clear hb
    have g2' : w1.cell? ⟨b, 2, none⟩ = some (.int .i64 ((lv : Int) + 1)) := by rw [g2]; simp
    clear g2
    go_wp2_with fail
    go_ret
    exact ends_none (HRD.out.trans H1.out) ⟨rfl, HB.out.setLv (by omega) _ (by simp)⟩
  | some x =>
    have H1 := hid hr
    clear hr
    obtain ⟨rfl, hb⟩ := HE.out.some H1.out
    obtain ⟨_, _, g2, _, f2⟩ := hb.cells
    have HB := hid hb
    clear hb
    have g2' : w1.cell? ⟨b, 2, none⟩ = some (.int .i64 ((lv : Int) + 1)) := by rw [g2]; simp
    clear g2
    go_wp2_with fail
    go_ret
    refine ends_some (HRD.out.trans H1.out) ⟨rfl, ?_⟩
    rw [HS.out.1, HS.out.2.1, HS.out.2.2]
    exact HB.out.setLv (by omega) _ (by simp)
end Go.Proofs.Ytdhmmllpioppfaa
