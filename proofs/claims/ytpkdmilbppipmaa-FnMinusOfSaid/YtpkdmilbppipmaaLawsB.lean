/- The walks of the laws on fractions, second part. (Written by wip/gen/lawsf.py.) -/
import Derived.Test.YtpkdmilbppipmaaLaws
namespace Go.Proofs.Ytpkdmilbppipmaa
set_option linter.unusedSimpArgs false
set_option linter.unusedVariables false
open Go.RowKit

theorem psB_iff {fu fd gu gd : Int} : psB fu fd gu gd = true ↔ okB fu fd = true ∧ okB gu gd = true ∧ plB fu fd gu gd = true := by
  unfold psB; simp [and_assoc]

theorem psU_yes {fu fd gu gd : Int} (h : psB fu fd gu gd = true) : psU fu fd gu gd = plU fu fd gu gd ∧ psD fu fd gu gd = plD fu fd gu gd := by simp [psU, psD, h]

theorem psU_no {fu fd gu gd : Int} (h : psB fu fd gu gd = false) : psU fu fd gu gd = 0 ∧ psD fu fd gu gd = 0 := by simp [psU, psD, h]

/-- for both exchanged it is the same -/
theorem pl_comm (fu fd gu gd : Int) : plU fu fd gu gd = plU gu gd fu fd ∧ plD fu fd gu gd = plD gu gd fu fd := by
  unfold plU plD
  have e1 : fu * gd + gu * fd = gu * fd + fu * gd := Int.add_comm ..
  have e2 : fd * gd = gd * fd := Int.mul_comm ..
  rw [e1, e2]; exact ⟨rfl, rfl⟩

theorem ps_comm (fu fd gu gd : Int) : psB gu gd fu fd = psB fu fd gu gd ∧ psU gu gd fu fd = psU fu fd gu gd ∧ psD gu gd fu fd = psD fu fd gu gd := by
  obtain ⟨e1, e2⟩ := pl_comm fu fd gu gd
  have e3 : psB gu gd fu fd = psB fu fd gu gd := by
    unfold psB plB; rw [← e1, ← e2, Bool.and_comm (okB gu gd)]
  refine ⟨e3, ?_, ?_⟩
  · unfold psU; rw [e3, e1]
  · unfold psD; rw [e3, e2]

/-- with the second one, with the other sign, added it is the first one -/
theorem pl_back {fu fd gu gd : Int} (hf : okB fu fd = true) (hg : okB gu gd = true) : plU (plU fu fd gu gd) (plD fu fd gu gd) (-gu) gd = fu ∧ plD (plU fu fd gu gd) (plD fu fd gu gd) (-gu) gd = fd := by
  obtain ⟨a1, a2, a3, a4, a5⟩ := okB_iff.1 hf
  obtain ⟨b1, b2, b3, b4, b5⟩ := okB_iff.1 hg
  have hD := mul_pos a3 b3
  have sD := lowD_pos (fu * gd + gu * fd) (fd * gd) (by omega)
  have sc := low_cross (fu * gd + gu * fd) (fd * gd) (by omega)
  show lowU (plU fu fd gu gd * gd + -gu * plD fu fd gu gd) (plD fu fd gu gd * gd) = fu ∧ lowD (plU fu fd gu gd * gd + -gu * plD fu fd gu gd) (plD fu fd gu gd * gd) = fd
  change 1 ≤ plD fu fd gu gd at sD
  change plU fu fd gu gd * (fd * gd) = (fu * gd + gu * fd) * plD fu fd gu gd at sc
  generalize plU fu fd gu gd = s at *
  generalize plD fu fd gu gd = t at *
  have hD2 := mul_pos sD b3
  have c := low_cross (s * gd + -gu * t) (t * gd) (by omega)
  have g := low_gcd (s * gd + -gu * t) (t * gd) (by omega)
  have p := lowD_pos (s * gd + -gu * t) (t * gd) (by omega)
  generalize lowU (s * gd + -gu * t) (t * gd) = x at *
  generalize lowD (s * gd + -gu * t) (t * gd) = y at *
  refine cross_eq p a3 g a5 ?_
  -- x * (t * gd) = (s * gd - gu * t) * y and s * fd * gd = (fu * gd + gu * fd) * t give x * fd = fu * y
  have hne : t * gd ≠ 0 := by omega
  apply Int.eq_of_mul_eq_mul_right hne
  have e1 : x * fd * (t * gd) = (x * (t * gd)) * fd := by
    rw [Int.mul_assoc, Int.mul_comm fd, ← Int.mul_assoc]
  rw [e1, c]
  have e2 : (s * gd + -gu * t) * fd = fu * (t * gd) := by
    have e3 : (s * gd + -gu * t) * fd = s * (fd * gd) - gu * t * fd := by
      rw [Int.add_mul, Int.mul_assoc s gd fd, Int.mul_comm gd fd, Int.neg_mul, Int.neg_mul]; rfl
    rw [e3, sc, Int.add_mul]
    have e4 : gu * fd * t = gu * t * fd := by rw [Int.mul_assoc, Int.mul_comm fd t, ← Int.mul_assoc]
    have e5 : fu * gd * t = fu * (t * gd) := by rw [Int.mul_assoc, Int.mul_comm gd t]
    rw [e4, e5]; omega
  have e6 : (s * gd + -gu * t) * y * fd = ((s * gd + -gu * t) * fd) * y := by rw [Int.mul_assoc, Int.mul_comm y fd, ← Int.mul_assoc]
  rw [e6, e2, Int.mul_assoc, Int.mul_comm (t * gd) y, ← Int.mul_assoc]

theorem ps_back {fu fd gu gd : Int} (h : psB fu fd gu gd = true) :
    psB (psU fu fd gu gd) (psD fu fd gu gd) (mnU gu gd) (mnD gu gd) = true ∧ psU (psU fu fd gu gd) (psD fu fd gu gd) (mnU gu gd) (mnD gu gd) = fu ∧ psD (psU fu fd gu gd) (psD fu fd gu gd) (mnU gu gd) (mnD gu gd) = fd ∧ okB (psU fu fd gu gd) (psD fu fd gu gd) = true := by
  obtain ⟨hf, hg, hp⟩ := psB_iff.1 h
  obtain ⟨e1, e2⟩ := psU_yes h
  have m1 : mnU gu gd = -gu := by simp [mnU, hg]
  have m2 : mnD gu gd = gd := by simp [mnD, hg]
  rw [e1, e2, m1, m2]
  obtain ⟨b1, b2⟩ := pl_back hf hg
  have hs : okB (plU fu fd gu gd) (plD fu fd gu gd) = true := by rw [plB_ok hf hg]; exact hp
  have hm : okB (-gu) gd = true := by rw [okB_neg]; exact hg
  obtain ⟨a1, a2, a3, a4, a5⟩ := okB_iff.1 hf
  have hb : psB (plU fu fd gu gd) (plD fu fd gu gd) (-gu) gd = true := psB_iff.2 ⟨hs, hm, plB_iff.2 ⟨by rw [b1]; omega, by rw [b1]; omega, by rw [b2]; omega, by rw [b2]; omega⟩⟩
  obtain ⟨c1, c2⟩ := psU_yes hb
  exact ⟨hb, by rw [c1, b1], by rw [c2, b2], hs⟩

end Go.Proofs.Ytpkdmilbppipmaa
